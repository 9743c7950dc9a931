/-
  A run by reckoning: make, bytes as a text, parts of rows that have grown, clear.
-/
import Derived.Test.YtnggajehngemmaaGreatDoorEvB
import Derived.Laws.StructEq
namespace Go.Proofs.YtnggajehngemmaaGreatDoor
open Go Go.RowKit
def msl (P : Program) (H : RW) (t : TypeId) (x y : Value) : Option (Value × RW) :=
  match P.underlying t with
  | some (.slice e) => match P.info? e with
    | some i => match i.zero, x, y with
      | some z, .int _ l, .int _ c => bif decide (0 ≤ l) && decide (l ≤ c) && decide (c ≤ 1000000) && Nat.ble i.bytes 10000 && Nat.ble (c.toNat * i.size) 16777216 && (madeCells z.cells (c.toNat * i.size)).toList.all flat then
          some (.slice (some ⟨H.n, 0, none⟩) l.toNat c.toNat, H.push (.row (madeCells z.cells (c.toNat * i.size)).toList e)) else none
      | _, _, _ => none
    | none => none
  | _ => none
def ints8 : List Value → Option (List Int)
  | [] => some []
  | .int .u8 n :: l => match ints8 l with
    | some ns => some (n :: ns)
    | none => none
  | _ :: _ => none
def b2s (P : Program) (H : RW) (src dst : TypeId) (x : Value) : Option Value :=
  match svp P (Go.underlying src), svp P (Go.underlying dst), x with
  | some (.slice e), some .string, .slice (some ⟨i, o, none⟩) n _ => match svp P (Go.underlying e), cellsOf H i o n with
    | some (.int .u8), some vs => match ints8 vs with
      | some ns => some (.string (ns.foldl (fun r n => r.push (UInt8.ofNat n.toNat)) ByteArray.empty))
      | none => none
    | _, _ => none
  | _, _, _ => none
/-- a bound that is left out, or a number -/
def bnd (d : Nat) : Option Value → Option Nat
  | none => some d
  | some (.int _ n) => bif decide (0 ≤ n) then some n.toNat else none
  | _ => none
def slu (P : Program) (H : RW) (t : TypeId) (x : Value) (lo hi mx : Option Value) : Option Value :=
  match svp P (Go.underlying t), x with
  | some (.slice el), .slice (some ⟨i, o, none⟩) n c => match svp P (Go.sizeOf el), look i H.h, bnd 0 lo, bnd n hi with
    | some size, some (.own vs _ sz), some l, some h => match mx with
      | none => bif Nat.ble big c && Nat.beq sz size && Nat.ble l h && Nat.ble ((c - big + h) * sz) vs.length && (Nat.beq l 0 || Nat.blt l h) && Nat.blt 0 sz then
          some (.slice (some ((⟨i, o, none⟩ : Addr).add (l * size))) (h - l) (c + l)) else none
      | some (.int _ m) => bif Nat.ble big c && Nat.beq sz size && Nat.ble l h && decide (0 ≤ m) && Nat.ble h m.toNat && Nat.ble ((c - big + m.toNat) * sz) vs.length && Nat.blt m.toNat big && Nat.blt 0 sz && hi.isSome then
          some (.slice (some (bif Nat.beq m.toNat l then ⟨i, o, none⟩ else (⟨i, o, none⟩ : Addr).add (l * size))) (h - l) (m.toNat - l)) else none
      | _ => none
    | _, _, _, _ => none
  | _, _ => none
/-- a text as bytes -/
def s2b (P : Program) (H : RW) (src dst : TypeId) (x : Value) : Option (Value × RW) :=
  match svp P (Go.underlying src), svp P (Go.underlying dst), x with
  | some _, some (.slice e), .string s => match svp P (Go.underlying e) with
    | some (.int .u8) => some (.slice (some ⟨H.n, 0, none⟩) s.size big, H.push (.ro (s.data.toList.map fun b => .int .u8 b.toNat)))
    | _ => none
  | _, _, _ => none
section
variable {P : Program} {X : Kep} {base : Nat} {E : Ren} {H : RW} {w w' : World}
theorem blt_of {x y : Nat} (h : x < y) : Nat.blt x y = true := by rw [Nat.blt_eq]; exact h
theorem msl_sound [Ltr] {t : TypeId} {x y v : Value} {H1 : RW} (R : Rep X base E H w) (e : msl P H t x y = some (v, H1)) :
    ∃ F v' w', (Instr.makeSlice t x y).run P w = .ok v' w' ∧ Ext E F ∧ Rep X base F H1 w' ∧ Kp X w w' ∧ Rel F v v' := by
  unfold msl at e
  split at e
  · rename_i el hu
    split at e
    · rename_i i hi
      split at e
      · rename_i z kl l kc c hz
        cases hc : (decide (0 ≤ l) && decide (l ≤ c) && decide (c ≤ 1000000) && Nat.ble i.bytes 10000 && Nat.ble (c.toNat * i.size) 16777216 && (madeCells z.cells (c.toNat * i.size)).toList.all flat) with
        | false => rw [hc] at e; cases e
        | true =>
          rw [hc] at e
          simp only [Bool.and_eq_true, decide_eq_true_eq] at hc
          obtain ⟨⟨⟨⟨⟨h1, h2⟩, h3⟩, h4⟩, h5⟩, h6⟩ := hc
          obtain ⟨rfl, rfl⟩ := Prod.mk.inj (Option.some.inj e)
          have hb := Nat.le_of_ble_eq_true h4
          have hbytes : (i.bytes : Int) * c ≤ 281474976710656 := by
            have h7 : (i.bytes : Int) ≤ 10000 := by omega
            have h8 : (i.bytes : Int) * c ≤ 10000 * 1000000 := Int.mul_le_mul h7 h3 (by omega) (by decide)
            omega
          have hr := run_makeSlice (P := P) w t el i z hu hi hz kl kc l c h1 h2 (Nat.le_of_ble_eq_true h5) hbytes (by omega)
          obtain ⟨p1, p2, p3⟩ := R.push (o := .row (madeCells z.cells (c.toNat * i.size)).toList el) (x := .cells (madeCells z.cells (c.toNat * i.size)) el) (k := 0) (fun F x => ⟨_, rfl, RelL.flats h6⟩)
          have hlt : Nat.blt c.toNat big = true := by
            cases hb : Nat.blt c.toNat big with
            | true => rfl
            | false =>
              have : ¬ c.toNat < big := fun h => by rw [blt_of h] at hb; cases hb
              unfold big at this
              omega
          exact ⟨_, _, _, hr, p2, p1, p3, relSl ⟨_, _, _, _, rfl, rfl, Ren.at⟩ hlt⟩
      · cases e
    · cases e
  · cases e
theorem run_loadCellsFrom {a : Addr} : ∀ (vs : List Value) (i : Nat) (acc : Array Value), (∀ j u, vs[j]? = some u → w.cell? (a.add (i + j)) = some u) → (Go.loadCellsFrom a i vs.length acc).run P w = .ok (acc ++ vs.toArray) w
  | [], i, acc, _ => by simp [Go.loadCellsFrom]
  | v :: vs, i, acc, h => by
    have h0 := h 0 v rfl
    have ih := run_loadCellsFrom vs (i + 1) (acc.push v) (fun j u hu => by
      have := h (j + 1) u (by simpa using hu)
      rwa [show i + (j + 1) = i + 1 + j by omega] at this)
    show (Go.load (a.add i) >>= fun v => Go.loadCellsFrom a (i + 1) vs.length (acc.push v)).run P w = _
    rw [Sem.run_bind]
    have hl : (Go.load (a.add i)).run P w = .ok v w := by
      simp only [Nat.add_zero] at h0
      simp [Go.load, Sem.run, h0]
    rw [hl, Result.andThen_ok, ih]
    congr 1
    apply Array.ext'
    simp
theorem ints8_eq : ∀ {vs : List Value} {ns : List Int}, ints8 vs = some ns → vs = ns.map (Value.int .u8)
  | [], ns, e => by obtain rfl := Option.some.inj e; rfl
  | v :: l, ns, e => by
    unfold ints8 at e
    split at e
    · rename_i h; cases h
    · rename_i n l' h
      obtain ⟨rfl, rfl⟩ := List.cons.inj h
      cases hl : ints8 l with
      | none => rw [hl] at e; cases e
      | some ms =>
        rw [hl] at e
        obtain rfl := Option.some.inj e
        rw [ints8_eq hl]
        rfl
    · cases e
theorem RelL.ints [Ltr] {ns : List Int} : ∀ {vs : List Value}, RelL E (ns.map (Value.int .u8)) vs → vs = ns.map (Value.int .u8) := by
  induction ns with
  | nil => intro vs h; cases h; rfl
  | cons n ns ih =>
    intro vs h
    cases h with
    | cons h t => rw [h.int, ih t]; rfl
theorem b2s_sound [Ltr] {src dst : TypeId} {x x' v : Value} (R : Rep X base E H w) (hx : Rel E x x') (e : b2s P H src dst x = some v) : (Go.convert src dst x').run P w = .ok v w ∧ flat v = true := by
  unfold b2s at e
  split at e
  · rename_i el i o n c hs hd
    split at e
    · rename_i vs he hvs
      cases hi : ints8 vs with
      | none => rw [hi] at e; cases e
      | some ns =>
        rw [hi] at e
        obtain rfl := Option.some.inj e
        refine ⟨?_, rfl⟩
        cases hx with
        | same hf => cases hf
        | @sl _ _ b k _ _ hE =>
          obtain ⟨vs', r, hl, hc⟩ := cellsOf_rel R hE n o hvs
          rw [ints8_eq hi] at r
          obtain rfl := RelL.ints r
          have hlen : (ns.map (Value.int .u8)).length = n := by rw [← hl, ints8_eq hi]
          have hload : (Go.loadCells (⟨b, o, none⟩ : Addr) n).run P w = .ok (ns.map (Value.int .u8)).toArray w := by
            have := run_loadCellsFrom (P := P) (w := w) (a := ⟨b, o, none⟩) (ns.map (Value.int .u8)) 0 #[] (fun j u hu => by rw [Addr.add_lit, Nat.zero_add]; exact hc j u hu)
            rw [hlen] at this
            simpa [Go.loadCells] using this
          have := run_bytesToString (P := P) w ⟨b, o, none⟩ n (room c k) ns hload
          show ((Go.underlying src) >>= _).run P w = _
          rw [Sem.run_bind, svp_run w hs, Result.andThen_ok, Sem.run_bind, svp_run w hd, Result.andThen_ok]
          dsimp only
          rw [Sem.run_bind, svp_run w he, Result.andThen_ok]
          exact this
    · cases e
  · cases e
theorem bnd_run {d : Nat} {v : Option Value} {l : Nat} (e : bnd d v = some l) : v = none ∧ l = d ∨ ∃ k n, v = some (.int k n) ∧ 0 ≤ n ∧ l = n.toNat := by
  unfold bnd at e
  split at e
  · exact .inl ⟨rfl, (Option.some.inj e).symm⟩
  · rename_i k n
    cases hn : decide (0 ≤ n) with
    | false => rw [hn] at e; cases e
    | true => rw [hn] at e; exact .inr ⟨k, n, rfl, of_decide_eq_true hn, (Option.some.inj e).symm⟩
  · cases e
theorem run_sliceBound {k : IntKind} {n : Int} {y : Nat} {c : BoundsCode} (h0 : 0 ≤ n) (h1 : n.toNat ≤ y) : (Instr.sliceBound (.int k n) y c).run P w = .ok n.toNat w := by
  have : n ≤ (y : Int) := by omega
  simp [Instr.sliceBound, asIntOf, h0, this]
theorem run_bounds [Ltr] {n m l h : Nat} {lo hi : Option Value} (el : bnd 0 lo = some l) (eh : bnd n hi = some h) (hl : l ≤ h) (hm : h ≤ m) : (Instr.sliceBounds true n m lo hi none).run P w = .ok (l, h, m) w := by
  rcases bnd_run el with ⟨rfl, rfl⟩ | ⟨k, a, rfl, h0, rfl⟩ <;> rcases bnd_run eh with ⟨rfl, rfl⟩ | ⟨k2, b, rfl, h2, rfl⟩
  · simp [Instr.sliceBounds]
  · simp [Instr.sliceBounds, run_sliceBound h2 hm]
  · simp [Instr.sliceBounds, run_sliceBound h0 hl]
  · simp [Instr.sliceBounds, run_sliceBound h2 hm, run_sliceBound h0 hl]
theorem run_bounds3 [Ltr] {n m cap l h : Nat} {k : IntKind} {mv : Int} {lo hi : Option Value} (h0 : 0 ≤ mv) (hm : m = mv.toNat) (hc : m ≤ cap) (el : bnd 0 lo = some l) (eh : bnd n hi = some h) (his : hi.isSome = true) (hl : l ≤ h) (hh : h ≤ m) :
    (Instr.sliceBounds true n cap lo hi (some (.int k mv))).run P w = .ok (l, h, m) w := by
  subst hm
  rcases bnd_run eh with ⟨rfl, rfl⟩ | ⟨k2, b, rfl, h2, rfl⟩
  · cases his
  rcases bnd_run el with ⟨rfl, rfl⟩ | ⟨k, a, rfl, h3, rfl⟩
  · simp [Instr.sliceBounds, run_sliceBound h0 hc, run_sliceBound h2 hh]
  · simp [Instr.sliceBounds, run_sliceBound h0 hc, run_sliceBound h2 hh, run_sliceBound h3 hl]
theorem slu_sound [Ltr] {t : TypeId} {x x' v : Value} {lo hi mx : Option Value} (R : Rep X base E H w) (hx : Rel E x x') (e : slu P H t x lo hi mx = some v) : ∃ v', (Instr.sliceAt t x' lo hi mx).run P w = .ok v' w ∧ Rel E v v' := by
  unfold slu at e
  split at e
  · rename_i el i o n c hu
    split at e
    · rename_i size vs ty sz l h hsz hlk hl hh
      cases hx with
      | same hf => cases hf
      | @sl _ _ b k _ _ hE =>
        obtain ⟨b2, k2, e2, xs, ys, hhp, rx, hxy, hmx⟩ := R.ok i _ hlk
        rw [hE] at e2
        obtain ⟨rfl, rfl⟩ := Prod.mk.inj (Option.some.inj e2)
        have hvl := rx.length
        have start : ∀ {cap l2 h2 m2 : Nat}, (Instr.sliceBounds true n cap lo hi mx).run P w = .ok (l2, h2, m2) w →
            (Instr.sliceAt t (.slice (some ⟨b, o, none⟩) n cap) lo hi mx).run P w = .ok (.slice (if m2 = l2 then some ⟨b, o, none⟩ else some ((⟨b, o, none⟩ : Addr).add (l2 * size))) (h2 - l2) (m2 - l2)) w := by
          intro cap l2 h2 m2 hb
          show ((Go.underlying t) >>= _).run P w = _
          rw [Sem.run_bind, svp_run w hu, Result.andThen_ok]
          show ((Go.underlying t) >>= _).run P w = _
          rw [Sem.run_bind, svp_run w hu, Result.andThen_ok]
          dsimp only
          rw [Sem.run_bind, hb, Result.andThen_ok]
          dsimp only
          rw [Sem.run_bind, svp_run w hsz, Result.andThen_ok]
          rfl
        have hcap : ∀ {q : Nat}, (c - big + q) * sz ≤ vs.length → 0 < sz → c - big + q ≤ k := by
          intro q h1 h2
          have : (c - big + q) * sz ≤ k * sz := by omega
          exact Nat.le_of_mul_le_mul_right this h2
        have hroom : big ≤ c → ∀ q, big ≤ c + q ∧ room (c + q) k = k - (c - big + q) := by
          intro hb q
          refine ⟨by omega, ?_⟩
          have hf : Nat.blt (c + q) big = false := by
            cases hq : Nat.blt (c + q) big with
            | true => have : c + q < big := Nat.le_of_ble_eq_true hq; omega
            | false => rfl
          unfold room
          rw [hf, cond_false]
          omega
        split at e
        · cases hc : (Nat.ble big c && Nat.beq sz size && Nat.ble l h && Nat.ble ((c - big + h) * sz) vs.length && (Nat.beq l 0 || Nat.blt l h) && Nat.blt 0 sz) with
          | false => rw [hc] at e; cases e
          | true =>
            rw [hc] at e
            simp only [Bool.and_eq_true, Bool.or_eq_true] at hc
            obtain ⟨⟨⟨⟨⟨c1, c2⟩, c3⟩, c4⟩, c5⟩, c6⟩ := hc
            have c1' := Nat.le_of_ble_eq_true c1
            obtain rfl := Nat.eq_of_beq_eq_true c2
            have c3' := Nat.le_of_ble_eq_true c3
            have hk := hcap (Nat.le_of_ble_eq_true c4) (Nat.le_of_ble_eq_true c6)
            obtain rfl := Option.some.inj e
            have hr0 := (hroom c1' 0).2
            rw [Nat.add_zero, Nat.add_zero] at hr0
            have hrun := start (run_bounds (P := P) (w := w) (m := room c k) hl hh c3' (by rw [hr0]; omega))
            refine ⟨_, hrun, ?_⟩
            have ha : RelAd E ⟨i, o, none⟩ ⟨b, o, none⟩ := ⟨_, _, _, _, rfl, rfl, hE⟩
            have hadd : (if room c k = l then some (⟨b, o, none⟩ : Addr) else some ((⟨b, o, none⟩ : Addr).add (l * sz))) = some ((⟨b, o, none⟩ : Addr).add (l * sz)) := by
              rcases c5 with c5 | c5
              · obtain rfl := Nat.eq_of_beq_eq_true c5
                simp [Addr.add]
              · have c5' : l < h := Nat.le_of_ble_eq_true c5
                rw [if_neg (by rw [hr0]; omega)]
            rw [hadd]
            obtain ⟨i2, o2, b2, k2, q1, q2, q3⟩ := ha.add (l * sz)
            rw [q1, q2]
            have hi2 : i2 = i := by
              have := congrArg Addr.block q1
              rw [Addr.add_lit] at this
              exact this.symm
            subst hi2
            rw [hE] at q3
            obtain ⟨rfl, rfl⟩ := Prod.mk.inj (Option.some.inj q3)
            have := Rel.sl (E := E) (o := o2) (n := h - l) (c := c + l) hE
            rwa [(hroom c1' l).2, show k - (c - big + l) = room c k - l by rw [hr0]; omega] at this
        · rename_i km mv
          cases hc : (Nat.ble big c && Nat.beq sz size && Nat.ble l h && decide (0 ≤ mv) && Nat.ble h mv.toNat && Nat.ble ((c - big + mv.toNat) * sz) vs.length && Nat.blt mv.toNat big && Nat.blt 0 sz && hi.isSome) with
          | false => rw [hc] at e; cases e
          | true =>
            rw [hc] at e
            simp only [Bool.and_eq_true, decide_eq_true_eq] at hc
            obtain ⟨⟨⟨⟨⟨⟨⟨⟨c1, c2⟩, c3⟩, c4⟩, c5⟩, c6⟩, c7⟩, c8⟩, c9⟩ := hc
            have c1' := Nat.le_of_ble_eq_true c1
            obtain rfl := Nat.eq_of_beq_eq_true c2
            have c3' := Nat.le_of_ble_eq_true c3
            have c5' := Nat.le_of_ble_eq_true c5
            have hk := hcap (Nat.le_of_ble_eq_true c6) (Nat.le_of_ble_eq_true c8)
            obtain rfl := Option.some.inj e
            have hr0 := (hroom c1' 0).2
            rw [Nat.add_zero, Nat.add_zero] at hr0
            have hrun := start (run_bounds3 (P := P) (w := w) (cap := room c k) c4 rfl (by rw [hr0]; omega) hl hh c9 c3' c5')
            refine ⟨_, hrun, ?_⟩
            have ha : RelAd E ⟨i, o, none⟩ ⟨b, o, none⟩ := ⟨_, _, _, _, rfl, rfl, hE⟩
            have hlt : Nat.blt (mv.toNat - l) big = true := by
              have : mv.toNat < big := Nat.le_of_ble_eq_true c7
              exact blt_of (by omega)
            cases hb : Nat.beq mv.toNat l with
            | true =>
              rw [if_pos (Nat.eq_of_beq_eq_true hb)]
              exact relSl ha hlt
            | false =>
              rw [if_neg (fun h => by rw [h, Nat.beq_refl] at hb; cases hb)]
              exact relSl (ha.add _) hlt
        · cases e
    · cases e
  · cases e
theorem s2b_sound [Ltr] {src dst : TypeId} {x v : Value} {H1 : RW} (R : Rep X base E H w) (e : s2b P H src dst x = some (v, H1)) :
    ∃ F v' w', (Go.convert src dst x).run P w = .ok v' w' ∧ Ext E F ∧ Rep X base F H1 w' ∧ Kp X w w' ∧ Rel F v v' := by
  unfold s2b at e
  split at e
  · rename_i d el s hs hd
    split at e
    · rename_i he
      obtain ⟨rfl, rfl⟩ := Prod.mk.inj (Option.some.inj e)
      obtain ⟨cap, hcap⟩ : ∃ cap, cap = (Question.appendCap s.size 0 el).cut (w.tape w.drawn (.appendCap s.size 0 el)) := ⟨_, rfl⟩
      let cs : Array Value := (s.data.map fun b => Value.int .u8 b.toNat) ++ Array.replicate (cap - s.size) (.int .u8 0)
      let w1 : World := { w with heap := w.heap.push (.cells cs el), drawn := w.drawn + 1 }
      let w2 : World := w1.freeze { block := w.heap.size, off := cs.size } 1
      have hb : w2.heap[w.heap.size]? = some (.cells cs el (cs.size, cs.size + 1)) := by
        show (World.freeze w1 _ 1).heap[w.heap.size]? = _
        unfold World.freeze
        rw [if_neg (by decide)]
        show (Array.modify (w.heap.push (.cells cs el)) w.heap.size _)[w.heap.size]? = _
        rw [Array.getElem?_modify, if_pos rfl, Array.getElem?_push_size]
        rfl
      have hg : w.grownBy w2 none := by
        refine ⟨rfl, rfl, rfl, by simp [w2, w1, World.freeze], fun k hk _ => ?_⟩
        have hne : w.heap.size ≠ k := by omega
        simp [w2, w1, World.freeze, Array.getElem?_modify, hne, Array.getElem?_push_lt hk, Array.getElem?_eq_getElem hk]
      obtain ⟨p1, p2, p3⟩ := R.grown (g := w.heap.size) (k := cap) (o := .ro (s.data.toList.map fun b => .int .u8 b.toNat)) hg (fun k h => by cases h) (.inl (Nat.le_refl _)) (fun F x => by
        refine ⟨cs, el, _, hb, fun j v hj => ⟨v, ?_, ?_⟩⟩
        · have hj' : j < s.data.size := by
            rcases Nat.lt_or_ge j s.data.size with h | h
            · exact h
            · rw [List.getElem?_eq_none (by simpa using h)] at hj; cases hj
          simp only [cs]
          rw [Array.getElem?_append_left (by simpa using hj')]
          simpa using hj
        · have : v ∈ s.data.toList.map fun b => Value.int .u8 b.toNat := List.mem_of_getElem? hj
          obtain ⟨b, _, rfl⟩ := List.mem_map.1 this
          exact .same rfl)
      refine ⟨_, .slice (some ⟨w.heap.size, 0, none⟩) s.size cap, w2, ?_, p2, p1, p3, rel_own Ren.at⟩
      show ((Go.underlying src) >>= _).run P w = _
      rw [Sem.run_bind, svp_run w hs, Result.andThen_ok, Sem.run_bind, svp_run w hd, Result.andThen_ok]
      have key : (Conv.stringToBytes el s).run P w = .ok (.slice (some ⟨w.heap.size, 0, none⟩) s.size cap) w2 := by
        have h1 : (choose (.appendCap s.size 0 el)).run P w = .ok cap { w with drawn := w.drawn + 1 } := by
          rw [hcap]; rfl
        have h2 : (newRow el cs).run P { w with drawn := w.drawn + 1 } = .ok ⟨w.heap.size, 0, none⟩ w1 := rfl
        have h4 : w1.shape? w.heap.size = some (el, cs.size) := by
          unfold World.shape?
          rw [show w1.heap[w.heap.size]? = some (.cells cs el) from Array.getElem?_push_size]
        have h3 : (markStringish ⟨w.heap.size, 0, none⟩).run P w1 = .ok () w2 := by
          show (match w1.shape? w.heap.size with | some (_, n) => Go.freeze { block := w.heap.size, off := n } 1 | _ => Pure.pure ()).run P w1 = _
          rw [h4]
          rfl
        unfold Conv.stringToBytes
        rw [Sem.run_bind, h1, Result.andThen_ok]
        show (newRow el cs >>= _).run P _ = _
        rw [Sem.run_bind, h2, Result.andThen_ok, Sem.run_bind, h3]
        rfl
      cases d <;> first
        | (dsimp only; rw [Sem.run_bind, svp_run w he, Result.andThen_ok]; exact key)
    · cases e
  · cases e
end
end Go.Proofs.YtnggajehngemmaaGreatDoor
/-
  A run by reckoning: maps.
-/
namespace Go.Proofs.YtnggajehngemmaaGreatDoor
open Go Go.RowKit
/-- what may be a key: flat, or a row of flat things -/
def kfl : Value → Bool
  | .agg ⟨l⟩ => l.all flat
  | v => flat v
theorem Rel.kfl_eq [Ltr] {E : Ren} {v v' : Value} (hf : kfl v = true) (h : Rel E v v') : v' = v := by
  unfold kfl at hf
  split at hf
  · rename_i l
    cases h with
    | same hf' => rfl
    | agg r' =>
      have : ∀ {l l' : List Value}, l.all flat = true → RelL E l l' → l' = l := by
        intro l
        induction l with
        | nil => intro l' _ r; cases r; rfl
        | cons a l ih =>
          intro l' h r
          simp only [List.all_cons, Bool.and_eq_true] at h
          cases r with
          | cons h1 t1 => rw [h1.flat_eq h.1, ih h.2 t1]
      rw [this hf r']
  · exact h.flat_eq hf
def ibeq : Int → Int → Bool
  | .ofNat a, .ofNat b => Nat.beq a b
  | .negSucc a, .negSucc b => Nat.beq a b
  | _, _ => false
theorem ibeq_eq (a b : Int) : (a == b) = ibeq a b := by
  have hn : ∀ x y : Nat, Nat.beq x y = true ↔ x = y := fun x y => ⟨Nat.eq_of_beq_eq_true, fun h => by rw [h]; exact Nat.beq_refl y⟩
  have key : ibeq a b = true ↔ a = b := by
    cases a with
    | ofNat x => cases b with
      | ofNat y => rw [ibeq, hn]; exact ⟨fun h => by rw [h], fun h => Int.ofNat.inj h⟩
      | negSucc y => exact ⟨fun h => (by cases h), fun h => (by cases h)⟩
    | negSucc x => cases b with
      | ofNat y => exact ⟨fun h => (by cases h), fun h => (by cases h)⟩
      | negSucc y => rw [ibeq, hn]; exact ⟨fun h => by rw [h], fun h => Int.negSucc.inj h⟩
  cases h : ibeq a b with
  | true => rw [key.1 h]; simp
  | false =>
    have : a ≠ b := fun e => by rw [key.2 e] at h; cases h
    simpa using this
/-- the keys are two numbers -/
def twoK (P : Program) (kt : TypeId) : Bool :=
  match P.underlying kt with
  | some (.struct fs) => !P.stoodInHeld kt && match fs.toList with
    | [f, g] => f.name != "_" && g.name != "_" && Nat.beq f.offset 0 && Nat.beq g.offset 1 && (match P.underlying f.type, P.underlying g.type with | some (.int _), some (.int _) => true | _, _ => false)
    | _ => false
  | _ => false
def fk2 (a b : Int) : List MapEntry → Nat → Option (Option (Nat × Value))
  | [], _ => some none
  | e :: es, i => match e.key with
    | .agg ⟨[.int .i64 c, .int .i64 d]⟩ => bif ibeq a c && ibeq b d then some (some (i, e.val)) else fk2 a b es (i + 1)
    | _ => none
def fkN (kind : TypeDesc) (k : Value) : List MapEntry → Nat → Option (Option (Nat × Value))
  | [], _ => some none
  | e :: es, i => match Instr.sameNow kind k e.key with
    | some true => some (some (i, e.val))
    | some false => fkN kind k es (i + 1)
    | none => none
/-- where a key is -/
def fk (P : Program) (kt : TypeId) (k : Value) (es : List MapEntry) : Option (Option (Nat × Value)) :=
  match k with
  | .agg ⟨[.int .i64 a, .int .i64 b]⟩ => bif twoK P kt then fk2 a b es 0 else none
  | _ => match P.underlying kt with
    | some kind => fkN kind k es 0
    | none => none
/-- may it be a key? -/
def ck (P : Program) (kt : TypeId) (k : Value) : Bool :=
  match k with
  | .agg ⟨[.int .i64 _, .int .i64 _]⟩ => twoK P kt
  | .int _ _ | .string _ | .bool _ => match P.underlying kt with
    | some (.int _) | some .string | some .bool => true
    | _ => false
  | _ => false
def same1 (x y : Value) : Bool :=
  match x, y with
  | .bool a, .bool b => a == b
  | .int j a, .int k b => decide (j = k) && ibeq a b
  | .string a, .string b => a == b
  | .agg ⟨[.int .i64 a, .int .i64 b]⟩, .agg ⟨[.int .i64 c, .int .i64 d]⟩ => ibeq a c && ibeq b d
  | _, _ => false
/-- a map is put -/
def mup (P : Program) (base : Nat) (H : RW) (t : TypeId) (m k v : Value) : Option RW :=
  match P.underlying t, m with
  | some (.map kt _), .map (some i) => match look i H.h with
    | some (.mp es c) => bif Nat.ble base i && kfl k && ck P kt k then match fk P kt k es with
        | some (some (j, _)) => bif same1 ((es[j]?.map (·.key)).getD k) k then some { H with h := upd i (.mp (es.modify j fun e => { e with key := k, val := v }) c) H.h } else none
        | some none => some { H with h := upd i (.mp (es ++ [{ key := k, val := v, born := c }]) (c + 1)) H.h }
        | _ => none
      else none
    | _ => none
  | _, _ => none
def mfd (P : Program) (H : RW) (kt : TypeId) (m k : Value) : Option (Option (Nat × Value)) :=
  match m with
  | .map none => some none
  | .map (some i) => match look i H.h with
    | some (.mp es _) => fk P kt k es
    | _ => none
  | _ => none
def mans (P : Program) (el : TypeId) (ok : Bool) (r : Option (Nat × Value)) : Option Value :=
  match r with
  | some (_, v) => some (bif ok then .tuple ⟨[v, .bool true]⟩ else v)
  | none => match svp P (Go.zeroValue el) with
    | some v => bif flat v then some (bif ok then .tuple ⟨[v, .bool false]⟩ else v) else none
    | none => none
def mlk (P : Program) (H : RW) (t : TypeId) (m k : Value) (ok : Bool) : Option Value :=
  match P.underlying t with
  | some (.map kt el) => bif ck P kt k then match mfd P H kt m k with
      | some r => mans P el ok r
      | none => none
    else none
  | _ => none
theorem cond_some' {α : Type} {b : Bool} {x : Option α} {y : α} (h : (bif b then x else none) = some y) : b = true ∧ x = some y := by
  cases b with
  | true => exact ⟨rfl, h⟩
  | false => cases h
section
variable {P : Program} {X : Kep} {base : Nat} {E : Ren} {H : RW} {w w' : World}
/-- the same place, a value that goes with it -/
def RelR [Ltr] (E : Ren) : Option (Nat × Value) → Option (Nat × Value) → Prop
  | none, none => True
  | some (i, v), some (j, u) => i = j ∧ Rel E v u
  | _, _ => False
theorem twoK_of {kt : TypeId} (h : twoK P kt = true) : ∃ f g k k', P.underlying kt = some (.struct #[f, g]) ∧ P.stoodInHeld kt = false ∧ f.name ≠ "_" ∧ g.name ≠ "_" ∧ f.offset = 0 ∧ g.offset = 1 ∧ P.underlying f.type = some (.int k) ∧ P.underlying g.type = some (.int k') := by
  unfold twoK at h
  split at h
  · rename_i fs hu
    simp only [Bool.and_eq_true] at h
    obtain ⟨h0, h⟩ := h
    split at h
    · rename_i f g hl
      simp only [Bool.and_eq_true] at h
      obtain ⟨⟨⟨⟨h1, h2⟩, h3⟩, h4⟩, h5⟩ := h
      split at h5
      · rename_i k k' u1 u2
        have hfs : fs = #[f, g] := by apply Array.ext'; simpa using hl
        subst hfs
        exact ⟨f, g, k, k', hu, by simpa using h0, by simpa using h1, by simpa using h2, Nat.eq_of_beq_eq_true h3, Nat.eq_of_beq_eq_true h4, u1, u2⟩
      · cases h5
    · cases h
  · cases h
theorem part_at {t : TypeId} {k : IntKind} {cs : Array Value} {o : Nat} {v : Value} (hu : P.underlying t = some (.int k)) (hc : cs[o]? = some v) : (part t cs o).run P w = .ok v w := by
  have : (isAgg t).run P w = .ok false w := by
    simp [isAgg, run_underlying hu]
  simp [part, this, hc]
theorem eq2_run {kt : TypeId} (h : twoK P kt = true) (a b c d : Int) (w : World) : (Op.equal kt (.agg #[.int .i64 a, .int .i64 b]) (.agg #[.int .i64 c, .int .i64 d])).run P w = .ok (ibeq a c && ibeq b d) w := by
  obtain ⟨f, g, k, k', hu, hs, n1, n2, o1, o2, u1, u2⟩ := twoK_of h
  have hfo : P.fieldsOf kt = #[f, g] := by simp [Program.fieldsOf, hu]
  show (Op.equalIn (9999 + 1) kt _ _).run P w = _
  rw [run_equalIn_struct w 9999 kt _ _ (by rw [hfo]; exact hu) hs, hfo]
  have p1 : ∀ x y : Value, (part f.type #[x, y] f.offset).run P w = .ok x w := fun x y => part_at u1 (by rw [o1]; rfl)
  have p2 : ∀ x y : Value, (part g.type #[x, y] g.offset).run P w = .ok y w := fun x y => part_at u2 (by rw [o2]; rfl)
  have q1 := run_equalIn_int (P := P) w 9998 f.type .i64 k a c u1
  have q2 := run_equalIn_int (P := P) w 9998 g.type .i64 k' b d u2
  rw [← ibeq_eq, ← ibeq_eq]
  simp only [Op.eqFields, Sem.run_bind, Sem.run_ite, n1, n2, ne_eq, not_false_eq_true, if_true, p1, p2, Result.andThen_ok, q1, q2]
  cases h1 : (a == c) <;> cases h2 : (b == d) <;> simp
theorem fk2_run [Ltr] {kt : TypeId} (h : twoK P kt = true) (a b : Int) : ∀ {es es' : List MapEntry}, RelM E es es' → ∀ (i : Nat) {r : Option (Nat × Value)}, fk2 a b es i = some r →
    ∃ r', (Instr.findAsking kt (.agg #[.int .i64 a, .int .i64 b]) es' i).run P w = .ok r' w ∧ RelR E r r'
  | _, _, .nil, i, r, e => by
    obtain rfl := Option.some.inj e
    exact ⟨none, rfl, trivial⟩
  | _, _, @RelM.cons _ _ k v v' n l l' hv t, i, r, e => by
    unfold fk2 at e
    dsimp only at e
    split at e
    · rename_i c d
      have hq := eq2_run h a b c d w
      cases hb : (ibeq a c && ibeq b d) with
      | true =>
        rw [hb] at e hq
        obtain rfl := Option.some.inj e
        refine ⟨some (i, v'), ?_, rfl, hv⟩
        simp only [Instr.findAsking]
        rw [Sem.run_bind, hq]
        rfl
      | false =>
        rw [hb] at e hq
        obtain ⟨r', h1, h2⟩ := fk2_run h a b t (i + 1) e
        refine ⟨r', ?_, h2⟩
        simp only [Instr.findAsking]
        rw [Sem.run_bind, hq]
        exact h1
    · cases e
theorem findNow_agg {kind : TypeDesc} {l : Array Value} : ∀ {es : List MapEntry} {i : Nat}, Instr.findNow kind (.agg l) es i = none ∨ es = []
  | [], _ => .inr rfl
  | e :: es, i => .inl (by
      have : Instr.sameNow kind (.agg l) e.key = none := by unfold Instr.sameNow; split <;> first | rfl | (rename_i h; cases h) | (rename_i h _; cases h)
      simp [Instr.findNow, this])
theorem fkN_run [Ltr] {kind : TypeDesc} {k : Value} : ∀ {es es' : List MapEntry}, RelM E es es' → ∀ (i : Nat) {r : Option (Nat × Value)}, fkN kind k es i = some r → ∃ r', Instr.findNow kind k es' i = some r' ∧ RelR E r r'
  | _, _, .nil, i, r, e => by
    obtain rfl := Option.some.inj e
    exact ⟨none, rfl, trivial⟩
  | _, _, @RelM.cons _ _ k0 v v' n l l' hv t, i, r, e => by
    unfold fkN at e
    dsimp only at e
    unfold Instr.findNow
    dsimp only
    split at e
    · rename_i hs
      obtain rfl := Option.some.inj e
      exact ⟨some (i, v'), by rw [hs], rfl, hv⟩
    · rename_i hs
      obtain ⟨r', h1, h2⟩ := fkN_run t (i + 1) e
      exact ⟨r', by rw [hs]; exact h1, h2⟩
    · cases e
theorem fk_run [Ltr] {kt : TypeId} {k : Value} {es es' : List MapEntry} (hr : RelM E es es') {r : Option (Nat × Value)} (e : fk P kt k es = some r) (w : World) :
    ∃ r', (Instr.findKey kt k es').run P w = .ok r' w ∧ RelR E r r' := by
  unfold fk at e
  split at e
  · rename_i a b
    obtain ⟨h, e⟩ := cond_some' e
    obtain ⟨f, g, k1, k2, hu, -⟩ := twoK_of h
    obtain ⟨r', h1, h2⟩ := fk2_run (w := w) h a b hr 0 e
    refine ⟨r', ?_, h2⟩
    unfold Instr.findKey
    rw [Sem.run_bind, run_underlying hu, Result.andThen_ok]
    rcases findNow_agg (kind := .struct #[f, g]) (l := #[.int .i64 a, .int .i64 b]) (es := es') (i := 0) with hn | hn
    · rw [hn]; exact h1
    · subst hn
      cases hr
      exact h1
  · split at e
    · rename_i kind hu
      obtain ⟨r', h1, h2⟩ := fkN_run hr 0 e
      refine ⟨r', ?_, h2⟩
      unfold Instr.findKey
      rw [Sem.run_bind, run_underlying hu, Result.andThen_ok, h1]
      rfl
    · cases e
theorem ck_run {kt : TypeId} {k : Value} (h : ck P kt k = true) (b : Bool) (w : World) : (Instr.checkKey b 10000 kt k).run P w = .ok () w := by
  unfold ck at h
  have basic : ∀ {d : TypeDesc}, P.underlying kt = some d → (match d with | .int _ | .string | .bool => true | _ => false) = true → (Instr.checkKey b (9999 + 1) kt k).run P w = .ok () w := by
    intro d hu hd
    unfold Instr.checkKey
    rw [Sem.run_bind, run_underlying hu, Result.andThen_ok]
    cases d <;> first | rfl | cases hd
  split at h
  · rename_i x y
    obtain ⟨f, g, k1, k2, hu, hs, n1, n2, o1, o2, u1, u2⟩ := twoK_of h
    have p1 : ∀ x y : Value, (part f.type #[x, y] f.offset).run P w = .ok x w := fun x y => part_at u1 (by rw [o1]; rfl)
    have p2 : ∀ x y : Value, (part g.type #[x, y] g.offset).run P w = .ok y w := fun x y => part_at u2 (by rw [o2]; rfl)
    have c1 : ∀ {t : TypeId} {k : IntKind} {v : Value}, P.underlying t = some (.int k) → (Instr.checkKey b (9998 + 1) t v).run P w = .ok () w := by
      intro t k v hu
      unfold Instr.checkKey
      rw [Sem.run_bind, run_underlying hu, Result.andThen_ok]
      rfl
    show (Instr.checkKey b (9999 + 1) kt _).run P w = _
    unfold Instr.checkKey
    rw [Sem.run_bind, run_underlying hu, Result.andThen_ok]
    dsimp only
    rw [← Array.forIn_toList]
    simp only [List.forIn_cons, List.forIn_nil, n1, n2, ne_eq, not_false_eq_true, if_true, Sem.run_bind, p1, p2, Result.andThen_ok, Sem.run_pure, c1 u1, c1 u2]
  all_goals
    first
      | cases h
      | (split at h <;> first | (rename_i hu; exact basic hu rfl) | cases h)
theorem ck_und {kt : TypeId} {k : Value} (h : ck P kt k = true) : ∃ d, P.underlying kt = some d := by
  unfold ck at h
  split at h
  · obtain ⟨f, g, k1, k2, hu, -⟩ := twoK_of h
    exact ⟨_, hu⟩
  all_goals
    first
      | cases h
      | (split at h <;> first | (rename_i hu; exact ⟨_, hu⟩) | cases h)
theorem same1_run {x y : Value} (h : same1 x y = true) (w : World) : (Instr.keyThatStays x y).run P w = .ok y w := by
  have : Instr.sameBits 10000 x y = true := by
    unfold same1 at h
    split at h
    · simpa [Instr.sameBits] using h
    · simp only [Bool.and_eq_true, decide_eq_true_eq] at h
      obtain ⟨rfl, h⟩ := h
      rw [← ibeq_eq] at h
      simpa [Instr.sameBits] using h
    · simpa [Instr.sameBits] using h
    · simp only [Bool.and_eq_true] at h
      rw [← ibeq_eq, ← ibeq_eq] at h
      show Instr.sameBits (9999 + 1) _ _ = true
      simp only [Instr.sameBits]
      simpa [Instr.sameBits] using h
    · cases h
  simp [Instr.keyThatStays, this]
theorem Rep.setOb [Ltr] (R : Rep X base E H w) {i b k : Nat} {o o' : Ob} {y : Obj} (hbi : base ≤ i) (hl : look i H.h = some o) (ho : o.live = true) (e : E i = some (b, k)) (hok : Ok E k o' (some y)) :
    Rep X base E { H with h := upd i o' H.h } { w with heap := w.heap.setIfInBounds b y } ∧ Kp X w { w with heap := w.heap.setIfInBounds b y } := by
  have h' := R.oke hl e
  have hb : b < w.heap.size := h'.lt ho
  have hB : ¬ X b := R.new i b k hbi e
  refine ⟨⟨R.dom, ?_, ?_, R.new, fun j hj => by simpa using R.lt j hj, R.bn, fun j hj => by have : b ≠ j := fun h => hB (h ▸ hj); rw [← R.fx j hj]; simp [Array.getElem?_setIfInBounds_ne this]⟩, ⟨rfl, rfl, rfl, by simp, fun j hj => ?_⟩⟩
  · intro j oj hj
    by_cases hji : j = i
    · subst hji
      rw [look_upd hl] at hj
      obtain rfl := Option.some.inj hj
      exact .inr ⟨b, k, e, by simpa [hb] using hok⟩
    · rw [look_upd_ne hji] at hj
      rcases R.ok' j oj hj with hn | ⟨b2, k2, e2, h2⟩
      · exact .inl hn
      refine .inr ⟨b2, k2, e2, h2.at fun lv => ?_⟩
      have hbb : b ≠ b2 := fun hbb => hji (R.inj j i oj _ b2 k2 k hj lv hl ho e2 (hbb ▸ e))
      exact Array.getElem?_setIfInBounds_ne hbb
  · intro j j' oj oj' b2 k2 k2' hj lj hj' lj' e2 e2'
    have hh : ∀ {x : Nat} {ox : Ob}, look x (upd i o' H.h) = some ox → ox.live = true → ∃ ox', look x H.h = some ox' ∧ ox'.live = true := by
      intro x ox hx' lx
      by_cases hxi : x = i
      · subst hxi; exact ⟨_, hl, ho⟩
      · rw [look_upd_ne hxi] at hx'; exact ⟨ox, hx', lx⟩
    obtain ⟨p, hp, lp⟩ := hh hj lj
    obtain ⟨q, hq, lq⟩ := hh hj' lj'
    exact R.inj j j' p q b2 k2 k2' hp lp hq lq e2 e2'
  · have : b ≠ j := fun h => hB (h ▸ hj)
    simp [Array.getElem?_setIfInBounds_ne this]
theorem Rep.setMap [Ltr] (R : Rep X base E H w) {i b k : Nat} {es es' xs' : List MapEntry} {c c' : Nat} (hbi : base ≤ i) (hl : look i H.h = some (.mp es c)) (e : E i = some (b, k)) (hr : RelM E es' xs') :
    Rep X base E { H with h := upd i (.mp es' c') H.h } { w with heap := w.heap.setIfInBounds b (.map ⟨xs'⟩ c') } ∧ Kp X w { w with heap := w.heap.setIfInBounds b (.map ⟨xs'⟩ c') } :=
  R.setOb hbi hl rfl e ⟨xs', rfl, hr⟩
theorem run_getObj {b : Nat} {es : List MapEntry} {c : Nat} (h : w.heap[b]? = some (.map ⟨es⟩ c)) : (Go.getObj b).run P w = .ok (.map ⟨es⟩ c) w := by
  simp [Go.getObj, Sem.run, h]
theorem run_setObj {b : Nat} {es : List MapEntry} {c : Nat} {o : Obj} (h : w.heap[b]? = some (.map ⟨es⟩ c)) : (Go.setObj b o).run P w = .ok () { w with heap := w.heap.setIfInBounds b o } := by
  simp [Go.setObj, Sem.run, h]
theorem mup_sound [Ltr] {t : TypeId} {m m' k v v' : Value} {H1 : RW} (R : Rep X base E H w) (hm : Rel E m m') (hv : Rel E v v') (e : mup P base H t m k v = some H1) :
    ∃ w', (Instr.mapUpdate t m' k v').run P w = .ok () w' ∧ Rep X base E H1 w' ∧ Kp X w w' := by
  unfold mup at e
  split at e
  · rename_i kt el i hu
    split at e
    · rename_i es c hl
      obtain ⟨hc, e⟩ := cond_some' e
      simp only [Bool.and_eq_true] at hc
      have hbi := Nat.le_of_ble_eq_true hc.1.1
      have hck := ck_run hc.2 false w
      cases hm with
      | same hf => cases hf
      | @map _ b kk hE =>
        obtain ⟨b', k', e', ho⟩ := R.ok i _ hl
        rw [hE] at e'; obtain ⟨rfl, rfl⟩ := Prod.mk.inj (Option.some.inj e')
        obtain ⟨xs, hx, hr⟩ := ho
        split at e
        · rename_i j x hfk
          obtain ⟨hs, e⟩ := cond_some' e
          obtain rfl := Option.some.inj e
          obtain ⟨r', h1, h2⟩ := fk_run hr hfk w
          cases r' with
          | none => cases h2
          | some p =>
            obtain ⟨j', u⟩ := p
            obtain ⟨rfl, -⟩ := h2
            obtain ⟨R1, b1⟩ := R.setMap (c' := c) hbi hl hE (hr.set (k := k) hv j)
            refine ⟨_, ?_, R1, b1⟩
            show ((Go.underlying t) >>= _).run P w = _
            rw [Sem.run_bind, run_underlying hu, Result.andThen_ok]
            dsimp only
            rw [Sem.run_bind, run_getObj hx, Result.andThen_ok]
            dsimp only
            rw [Sem.run_bind, hck, Result.andThen_ok, Sem.run_bind, h1, Result.andThen_ok]
            dsimp only
            have hkk := same1_run (P := P) hs w
            have ek : ((⟨xs⟩ : Array MapEntry)[j]?.map (·.key)) = es[j]?.map (·.key) := by simpa using hr.key j
            rw [Sem.run_bind, ek, hkk, Result.andThen_ok, run_setObj hx]
            congr 3
            congr 1
            apply Array.ext'
            simp
        · rename_i hfk
          obtain rfl := Option.some.inj e
          obtain ⟨r', h1, h2⟩ := fk_run hr hfk w
          cases r' with
          | some p => cases h2
          | none =>
            obtain ⟨R1, b1⟩ := R.setMap (c' := c + 1) hbi hl hE (hr.append (.cons (k := k) (n := c) hv .nil))
            refine ⟨_, ?_, R1, b1⟩
            show ((Go.underlying t) >>= _).run P w = _
            rw [Sem.run_bind, run_underlying hu, Result.andThen_ok]
            dsimp only
            rw [Sem.run_bind, run_getObj hx, Result.andThen_ok]
            dsimp only
            rw [Sem.run_bind, hck, Result.andThen_ok, Sem.run_bind, h1, Result.andThen_ok]
            dsimp only
            rw [run_setObj hx]
            simp
        · cases e
    · cases e
  · cases e
theorem mlk_sound [Ltr] {t : TypeId} {m m' k v : Value} {ok : Bool} (R : Rep X base E H w) (hm : Rel E m m') (e : mlk P H t m k ok = some v) : ∃ v', (Instr.lookup t m' k ok).run P w = .ok v' w ∧ Rel E v v' := by
  unfold mlk at e
  split at e
  · rename_i kt el hu
    have hh := cond_some' e
    clear e
    obtain ⟨hc, e⟩ := hh
    have main : ∀ {r : Option (Nat × Value)} {es' : List MapEntry} {m' : Value},
        (∀ {r' : Option (Nat × Value)}, (Instr.findKey kt k es').run P w = .ok r' w → (Instr.lookup t m' k ok).run P w = ((match r' with | some (_, v) => Pure.pure (v, true) | none => (do Pure.pure (← Go.zeroValue el, false)) : Sem (Value × Bool)) >>= fun x => Pure.pure (if ok = true then Value.tuple #[x.1, .bool x.2] else x.1)).run P w) →
        (∃ r', (Instr.findKey kt k es').run P w = .ok r' w ∧ RelR E r r') → mans P el ok r = some v → ∃ v', (Instr.lookup t m' k ok).run P w = .ok v' w ∧ Rel E v v' := by
      rintro r es' m' start ⟨r', h1, h2⟩ e
      replace start := start h1
      cases r with
      | some p =>
        obtain ⟨j, u⟩ := p
        cases r' with
        | none => cases h2
        | some q =>
          obtain ⟨j', u'⟩ := q
          obtain ⟨rfl, hu'⟩ := h2
          obtain rfl := Option.some.inj e
          rw [start]
          cases ok with
          | true => exact ⟨_, rfl, .tuple (.cons hu' (.cons (.same rfl) .nil))⟩
          | false => exact ⟨_, rfl, hu'⟩
      | none =>
        cases r' with
        | some q => cases h2
        | none =>
          unfold mans at e
          dsimp only at e
          split at e
          · rename_i z hz
            obtain ⟨hf, e⟩ := cond_some' e
            obtain rfl := Option.some.inj e
            rw [start]
            dsimp only
            rw [Sem.run_bind, Sem.run_bind, svp_run w hz]
            cases ok with
            | true => exact ⟨_, rfl, .tuple (.cons (.same hf) (.cons (.same rfl) .nil))⟩
            | false => exact ⟨_, rfl, .same hf⟩
          · cases e
    cases hq : mfd P H kt m k with
    | none => rw [hq] at e; cases e
    | some r =>
      rw [hq] at e
      dsimp only at e
      unfold mfd at hq
      split at hq
      · obtain rfl := Option.some.inj hq
        obtain rfl := hm.flat_eq rfl
        refine main (r := none) (es' := []) (fun {r'} h1 => ?_) ⟨none, by
          obtain ⟨d, hd⟩ := ck_und hc
          unfold Instr.findKey
          rw [Sem.run_bind, run_underlying hd]
          rfl, trivial⟩ e
        show ((Go.underlying t) >>= _).run P w = _
        rw [Sem.run_bind, run_underlying hu, Result.andThen_ok]
        dsimp only
        rw [pure_bind, Sem.run_bind, ck_run hc _ w, Result.andThen_ok, Sem.run_bind, h1, Result.andThen_ok]
        cases r' with
        | none => dsimp only; rw [bind_assoc]
        | some p => rfl
      · rename_i i
        split at hq
        · rename_i es c hl
          cases hm with
          | same hf => cases hf
          | @map _ b kk hE =>
            obtain ⟨b', k', e', ho⟩ := R.ok i _ hl
            rw [hE] at e'; obtain ⟨rfl, rfl⟩ := Prod.mk.inj (Option.some.inj e')
            obtain ⟨xs, hx, hr⟩ := ho
            refine main (r := r) (es' := xs) (fun {r'} h1 => ?_) (fk_run hr hq w) e
            show ((Go.underlying t) >>= _).run P w = _
            rw [Sem.run_bind, run_underlying hu, Result.andThen_ok]
            dsimp only
            rw [Sem.run_bind, run_getObj hx, Result.andThen_ok]
            dsimp only
            rw [pure_bind, Sem.run_bind, ck_run hc _ w, Result.andThen_ok, Sem.run_bind, h1, Result.andThen_ok]
            cases r' with
            | none => dsimp only; rw [bind_assoc]
            | some p => rfl
        · cases hq
      · cases hq
  · cases e
end
end Go.Proofs.YtnggajehngemmaaGreatDoor
/-
  A run by reckoning: all the operations.
-/
namespace Go.Proofs.YtnggajehngemmaaGreatDoor
open Go Go.RowKit
def clr (P : Program) (base : Nat) (H : RW) (t : TypeId) (x : Value) : Option RW :=
  match svp P (Go.underlying t), x with
  | some (.slice el), .slice (some ⟨i, o, none⟩) (n + 1) _ => match svp P (Go.zeroValue el) with
    | some z => bif (Builtin.zeroCells z.cells (n + 1)).toList.all flat then (sv P base (Go.storeCells ⟨i, o, none⟩ (Builtin.zeroCells z.cells (n + 1)).toList) H).map (·.2) else none
    | none => none
  | some _, .slice _ 0 _ => some H
  | _, _ => none
def evAll (P : Program) (base : Nat) (ρ : Operand → Value) (o : Oper) (H : RW) : Option (Next × RW) :=
  match evOp P base ρ o H with
  | some r => some r
  | none => match o.op with
    | .makeSlice t x y => bif flat (ρ x) && flat (ρ y) then match msl P H t (ρ x) (ρ y) with
        | some (v, H1) => some (.value v, H1)
        | none => none
      else none
    | .convert s d x => match b2s P H s d (ρ x) with
      | some v => some (.value v, H)
      | none => bif flat (ρ x) then match s2b P H s d (ρ x) with
          | some (v, H1) => some (.value v, H1)
          | none => none
        else none
    | .slice t x lo hi mx => bif (lo.toList ++ hi.toList ++ mx.toList).all (fun y => flat (ρ y)) then match slu P H t (ρ x) (lo.map ρ) (hi.map ρ) (mx.map ρ) with
        | some v => some (.value v, H)
        | none => none
      else none
    | .makeMap _ none => some (.value (.map (some H.n)), H.push (.mp [] 0))
    | .mapUpdate t m k v => match mup P base H t (ρ m) (ρ k) (ρ v) with
      | some H1 => some (.skip, H1)
      | none => none
    | .lookup t m k ok => bif kfl (ρ k) then match mlk P H t (ρ m) (ρ k) ok with
        | some v => some (.value v, H)
        | none => none
      else none
    | .range t x => match P.underlying t, ρ x with
      | some .string, .string s => some (.value (.pointer (some ⟨H.n, 0, none⟩)), H.push (.it s 0))
      | _, _ => none
    | .next x true => match ρ x with
      | .pointer (some ⟨i, 0, none⟩) => match look i H.h with
        | some (.it s p) => bif Nat.ble base i then bif Nat.blt p s.size then match Utf8.decode s p with
            | (c, n) => some (.value (.tuple ⟨[.bool true, .int .i64 p, .int .i32 c]⟩), { H with h := upd i (.it s (p + n)) H.h })
            else some (.value (.tuple ⟨[.bool false]⟩), H)
          else none
        | _ => none
      | _ => none
    | .call c => match c.callee, c.args.toList, c.argTypes.toList with
      | .builtin .append, [x, y], [t, t2] => bif Nat.beq t t2 then match apd P base H t (ρ x) (ρ y) with
          | some (v, H1) => some (.value v, H1)
          | none => none
        else none
      | .builtin .clear, [x], [t] => match clr P base H t (ρ x) with
        | some H1 => some (.value (.tuple #[]), H1)
        | none => none
      | _, _, _ => none
    | _ => none
section
variable {P : Program} {X : Kep} {base : Nat} {E : Ren} {H : RW} {w : World}
theorem clr_sound [Ltr] {t ty : TypeId} {x x' : Value} {H1 : RW} (R : Rep X base E H w) (hx : Rel E x x') (e : clr P base H t x = some H1) :
    ∃ F w', (Builtin.clear_ #[t] ty #[x']).run P w = .ok (.tuple #[]) w' ∧ Ext E F ∧ Rep X base F H1 w' ∧ Kp X w w' := by
  unfold clr at e
  split at e
  · rename_i el i o n c hu
    cases hz : svp P (Go.zeroValue el) with
    | none => rw [hz] at e; cases e
    | some z =>
      rw [hz] at e
      dsimp only at e
      cases hf : (Builtin.zeroCells z.cells (n + 1)).toList.all flat with
      | false => rw [hf] at e; cases e
      | true =>
        rw [hf] at e
        dsimp only [cond_true] at e
        cases hx with
        | same hf => cases hf
        | @sl _ _ b k _ _ hE =>
          cases hs : sv P base (Go.storeCells ⟨i, o, none⟩ (Builtin.zeroCells z.cells (n + 1)).toList) H with
          | none => rw [hs] at e; cases e
          | some p =>
            obtain ⟨u, H2⟩ := p
            rw [hs] at e
            obtain rfl := Option.some.inj e
            have ha : RelAd E ⟨i, o, none⟩ ⟨b, o, none⟩ := ⟨_, _, _, _, rfl, rfl, hE⟩
            obtain ⟨F, u', w', hr, x1, R1, b1, _⟩ := Snd.storeCells (P := P) (X := X) (base := base) 0 ha (RelL.flats hf) H H2 u w R hs
            refine ⟨F, w', ?_, x1, R1, b1⟩
            show ((Go.underlying t) >>= _).run P w = _
            rw [Sem.run_bind, svp_run w hu, Result.andThen_ok]
            show ((Go.zeroValue el) >>= _).run P w = _
            rw [Sem.run_bind, svp_run w hz, Result.andThen_ok, Sem.run_bind, hr]
            rfl
  · rename_i d a c hu
    obtain rfl := Option.some.inj e
    refine ⟨E, w, ?_, Ext.refl E, R, Kp.refl _ _⟩
    generalize hd : d = d' at hu
    cases hx with
    | same hf =>
      show ((Go.underlying t) >>= _).run P w = _
      rw [Sem.run_bind, svp_run w hu, Result.andThen_ok]
      cases a with
      | none => rfl
      | some a => cases hf
    | sl hE =>
      show ((Go.underlying t) >>= _).run P w = _
      rw [Sem.run_bind, svp_run w hu, Result.andThen_ok]
      rfl
  · cases e
theorem mup_flat [Ltr] {t : TypeId} {m k v : Value} {H1 : RW} (e : mup P base H t m k v = some H1) : kfl k = true := by
  unfold mup at e
  split at e
  · split at e
    · obtain ⟨hc, _⟩ := cond_some' e
      simp only [Bool.and_eq_true] at hc
      exact hc.1.2
    · cases e
  · cases e
theorem evAll_sound [Ltr] {ρ ρ' : Operand → Value} {o : Oper} {H1 : RW} {nx : Next} (hρ : ∀ x ∈ o.op.operands, Rel E (ρ x) (ρ' x)) (hR : Rep X base E H w)
    (e : evAll P base ρ o H = some (nx, H1)) : Does P X base E w nx H1 (execOp ρ' o) := by
  unfold evAll at e
  cases h0 : evOp P base ρ o H with
  | some r =>
    rw [h0] at e
    obtain rfl := Option.some.inj e
    exact evOp_sound hρ hR h0
  | none =>
    rw [h0] at e
    have hm := fun l e x h => mem_ops (E := E) (o := o) hρ (l := l) e (x := x) h
    dsimp only at e
    cases ho : o.op with
    | makeSlice t x y =>
      simp only [ho] at e
      cases hf : (flat (ρ x) && flat (ρ y)) with
      | false => rw [hf] at e; cases e
      | true =>
        rw [hf] at e
        simp only [Bool.and_eq_true] at hf
        dsimp only [cond_true] at e
        have e1 := (hm #[x, y] (by rw [ho]; rfl) x (by simp)).flat_eq hf.1
        have e2 := (hm #[x, y] (by rw [ho]; rfl) y (by simp)).flat_eq hf.2
        cases hs : msl P H t (ρ x) (ρ y) with
        | none => rw [hs] at e; cases e
        | some p =>
          obtain ⟨v, H2⟩ := p
          rw [hs] at e
          obtain ⟨rfl, rfl⟩ := Prod.mk.inj (Option.some.inj e)
          obtain ⟨F, v', w', hr, x1, R1, b1, rv⟩ := msl_sound hR hs
          refine ⟨F, .value v', w', ?_, x1, R1, b1, rv⟩
          simp only [execOp, ho, e1, e2]
          exact run_value hr
    | convert s d x =>
      simp only [ho] at e
      cases hs : b2s P H s d (ρ x) with
      | none =>
        rw [hs] at e
        dsimp only at e
        cases hf : flat (ρ x) with
        | false => rw [hf] at e; cases e
        | true =>
          rw [hf] at e
          dsimp only [cond_true] at e
          have e1 := (hm #[x] (by rw [ho]; rfl) x (by simp)).flat_eq hf
          cases hs2 : s2b P H s d (ρ x) with
          | none => rw [hs2] at e; cases e
          | some p =>
            obtain ⟨v, H2⟩ := p
            rw [hs2] at e
            obtain ⟨rfl, rfl⟩ := Prod.mk.inj (Option.some.inj e)
            obtain ⟨F, v', w', hr, x1, R1, b1, rv⟩ := s2b_sound hR hs2
            refine ⟨F, .value v', w', ?_, x1, R1, b1, rv⟩
            simp only [execOp, ho, e1]
            exact run_value hr
      | some v =>
        rw [hs] at e
        obtain ⟨rfl, rfl⟩ := Prod.mk.inj (Option.some.inj e)
        obtain ⟨hr, hf⟩ := b2s_sound hR (hm #[x] (by rw [ho]; rfl) x (by simp)) hs
        refine Does.pure hR (.same hf) ?_
        simp only [execOp, ho]
        exact run_value hr
    | slice t x lo hi mx =>
      simp only [ho] at e
      cases hc : (lo.toList ++ hi.toList ++ mx.toList).all (fun y => flat (ρ y)) with
      | false => rw [hc] at e; cases e
      | true =>
        rw [hc] at e
        dsimp only [cond_true] at e
        cases hs : slu P H t (ρ x) (lo.map ρ) (hi.map ρ) (mx.map ρ) with
        | none => rw [hs] at e; cases e
        | some v =>
          rw [hs] at e
          obtain ⟨rfl, rfl⟩ := Prod.mk.inj (Option.some.inj e)
          have hl : ∀ y ∈ lo.toList ++ hi.toList ++ mx.toList, ρ' y = ρ y := fun y hy => by
            refine (hm (#[x] ++ lo.toArray ++ hi.toArray ++ mx.toArray) (by rw [ho]; rfl) y ?_).flat_eq (List.all_eq_true.1 hc y hy)
            simp at hy ⊢
            rcases hy with h | h | h
            · exact .inr (.inl h)
            · exact .inr (.inr (.inl h))
            · exact .inr (.inr (.inr h))
          have e1 : lo.map ρ' = lo.map ρ := by cases lo with
            | none => rfl
            | some y => simp [hl y (by simp)]
          have e2 : hi.map ρ' = hi.map ρ := by cases hi with
            | none => rfl
            | some y => simp [hl y (by simp)]
          have e3 : mx.map ρ' = mx.map ρ := by cases mx with
            | none => rfl
            | some y => simp [hl y (by simp)]
          obtain ⟨v', hr, rv⟩ := slu_sound hR (hm (#[x] ++ lo.toArray ++ hi.toArray ++ mx.toArray) (by rw [ho]; rfl) x (by simp)) hs
          refine Does.pure hR rv ?_
          simp only [execOp, ho, e1, e2, e3]
          exact run_value hr
    | makeMap t r =>
      simp only [ho] at e
      cases r with
      | some y => cases e
      | none =>
        obtain ⟨rfl, rfl⟩ := Prod.mk.inj (Option.some.inj e)
        obtain ⟨p1, p2, p3⟩ := hR.push (o := .mp [] 0) (x := .map #[] 0) (k := 0) (fun F x => ⟨[], rfl, .nil⟩)
        refine ⟨_, .value (.map (some w.heap.size)), _, ?_, p2, p1, p3, .map Ren.at⟩
        simp only [execOp, ho]
        exact run_value rfl
    | mapUpdate t m k v =>
      simp only [ho] at e
      cases hs : mup P base H t (ρ m) (ρ k) (ρ v) with
      | none => rw [hs] at e; cases e
      | some H2 =>
        rw [hs] at e
        obtain ⟨rfl, rfl⟩ := Prod.mk.inj (Option.some.inj e)
        obtain ⟨w', hr, R1, b1⟩ := mup_sound hR (hm #[m, k, v] (by rw [ho]; rfl) m (by simp)) (hm #[m, k, v] (by rw [ho]; rfl) v (by simp)) hs
        have e1 := (hm #[m, k, v] (by rw [ho]; rfl) k (by simp)).kfl_eq (mup_flat hs)
        refine ⟨E, .skip, w', ?_, Ext.refl E, R1, b1, trivial⟩
        simp only [execOp, ho, e1]
        show ((Instr.mapUpdate t (ρ' m) (ρ k) (ρ' v)) >>= _).run P w = _
        rw [Sem.run_bind, hr]
        rfl
    | lookup t m k ok =>
      simp only [ho] at e
      obtain ⟨hf, e⟩ := cond_some' e
      have e1 := (hm #[m, k] (by rw [ho]; rfl) k (by simp)).kfl_eq hf
      cases hs : mlk P H t (ρ m) (ρ k) ok with
      | none => rw [hs] at e; cases e
      | some v =>
        rw [hs] at e
        obtain ⟨rfl, rfl⟩ := Prod.mk.inj (Option.some.inj e)
        obtain ⟨v', hr, rv⟩ := mlk_sound hR (hm #[m, k] (by rw [ho]; rfl) m (by simp)) hs
        refine Does.pure hR rv ?_
        simp only [execOp, ho, e1]
        exact run_value hr
    | range t x =>
      simp only [ho] at e
      split at e
      · rename_i s hu hx
        obtain ⟨rfl, rfl⟩ := Prod.mk.inj (Option.some.inj e)
        have e1 := (hm #[x] (by rw [ho]; rfl) x (by simp)).flat_eq (by rw [hx]; rfl)
        obtain ⟨p1, p2, p3⟩ := hR.push (o := .it s 0) (x := .stringIter s 0) (k := 0) (fun F x => rfl)
        refine ⟨_, .value (.pointer (some ⟨w.heap.size, 0, none⟩)), _, ?_, p2, p1, p3, .ptr Ren.at⟩
        simp only [execOp, ho, e1, hx]
        refine run_value ?_
        show ((Go.underlying t) >>= _).run P w = _
        rw [Sem.run_bind, run_underlying hu]
        rfl
      · cases e
    | next x is =>
      cases is with
      | false => simp only [ho] at e; cases e
      | true =>
      simp only [ho] at e
      split at e
      · rename_i i hx
        split at e
        · rename_i s p hl
          obtain ⟨hbi, e⟩ := cond_some' e
          have rx := hm #[x] (by rw [ho]; rfl) x (by simp)
          rw [hx] at rx
          generalize hy : ρ' x = y at rx
          cases rx with
          | same hf => cases hf
          | @ptr _ _ b k hE =>
          obtain ⟨b', k', e', ho'⟩ := hR.ok i _ hl
          rw [hE] at e'; obtain ⟨rfl, rfl⟩ := Prod.mk.inj (Option.some.inj e')
          have hxx : w.heap[b]? = some (.stringIter s p) := ho'
          have hg : (Go.getObj b).run P w = .ok (.stringIter s p) w := by simp [Go.getObj, Sem.run, hxx]
          cases hlt : Nat.blt p s.size with
          | true =>
            rw [hlt] at e
            obtain ⟨rfl, rfl⟩ := Prod.mk.inj (Option.some.inj e)
            obtain ⟨R1, b1⟩ := hR.setOb (o' := .it s (p + (Utf8.decode s p).2)) (y := .stringIter s (p + (Utf8.decode s p).2)) (Nat.le_of_ble_eq_true hbi) hl rfl hE rfl
            refine ⟨E, .value (.tuple #[.bool true, .int .i64 p, .int .i32 (Utf8.decode s p).1]), _, ?_, Ext.refl E, R1, b1, .tuple (.cons (.same rfl) (.cons (.same rfl) (.cons (.same rfl) .nil)))⟩
            simp only [execOp, ho, hy]
            refine run_value ?_
            have hlt' : p < s.size := by simpa [Nat.blt_eq] using hlt
            have hso : (Go.setObj b (.stringIter s (p + (Utf8.decode s p).2))).run P w = .ok () { w with heap := w.heap.setIfInBounds b (.stringIter s (p + (Utf8.decode s p).2)) } := by simp [Go.setObj, Sem.run, hxx]
            simp only [Instr.next, Sem.run_bind, hg, Result.andThen_ok, hlt', if_true, hso, Sem.run_pure]
            rfl
          | false =>
            rw [hlt] at e
            obtain ⟨rfl, rfl⟩ := Prod.mk.inj (Option.some.inj e)
            refine ⟨E, .value (.tuple #[.bool false]), w, ?_, Ext.refl E, hR, Kp.refl _ _, .tuple (.cons (.same rfl) .nil)⟩
            simp only [execOp, ho, hy]
            refine run_value ?_
            have hlt' : ¬ p < s.size := fun h => by rw [show Nat.blt p s.size = true by simpa [Nat.blt_eq] using h] at hlt; cases hlt
            simp only [Instr.next, Sem.run_bind, hg, Result.andThen_ok, hlt', if_false, Sem.run_pure]
        · cases e
      · cases e
    | call c =>
      simp only [ho] at e
      split at e
      · rename_i x y t t2 hc ha ht
        have ha' : c.args = #[x, y] := by apply Array.ext'; simpa using ha
        have ht' : c.argTypes = #[t, t2] := by apply Array.ext'; simpa using ht
        have hop : o.op.operands = c.args := by rw [ho]; simp [Op.operands, Call.operands, hc]
        cases hb : Nat.beq t t2 with
        | false => rw [hb] at e; cases e
        | true =>
          rw [hb] at e
          obtain rfl := Nat.eq_of_beq_eq_true hb
          dsimp only [cond_true] at e
          cases hs : apd P base H t (ρ x) (ρ y) with
          | none => rw [hs] at e; cases e
          | some p =>
            obtain ⟨v, H2⟩ := p
            rw [hs] at e
            obtain ⟨rfl, rfl⟩ := Prod.mk.inj (Option.some.inj e)
            obtain ⟨F, v', w', hr, x1, R1, b1, rv⟩ := apd_sound (ty := o.type) hR (hm _ hop x (by rw [ha']; simp)) (hm _ hop y (by rw [ha']; simp)) hs
            refine ⟨F, .value v', w', ?_, x1, R1, b1, rv⟩
            simp only [execOp, ho, resolve, hc, ha', ht', invoke, pure_bind, Go.builtin]
            exact run_value (by simpa using hr)
      · rename_i x t hc ha ht
        have ha' : c.args = #[x] := by apply Array.ext'; simpa using ha
        have ht' : c.argTypes = #[t] := by apply Array.ext'; simpa using ht
        have hop : o.op.operands = c.args := by rw [ho]; simp [Op.operands, Call.operands, hc]
        cases hs : clr P base H t (ρ x) with
        | none => rw [hs] at e; cases e
        | some H2 =>
          rw [hs] at e
          obtain ⟨rfl, rfl⟩ := Prod.mk.inj (Option.some.inj e)
          obtain ⟨F, w', hr, x1, R1, b1⟩ := clr_sound (ty := o.type) hR (hm _ hop x (by rw [ha']; simp)) hs
          refine ⟨F, .value (.tuple #[]), w', ?_, x1, R1, b1, .same rfl⟩
          simp only [execOp, ho, resolve, hc, ha', ht', invoke, pure_bind, Go.builtin]
          exact run_value (by simpa using hr)
      · cases e
    | _ => simp only [ho] at e; cases e
end
end Go.Proofs.YtnggajehngemmaaGreatDoor
