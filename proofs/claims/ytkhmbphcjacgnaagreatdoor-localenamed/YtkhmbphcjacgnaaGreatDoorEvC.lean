/-
  A run by reckoning: make, bytes as a text, parts of rows that have grown, clear.
-/
import Derived.Test.YtkhmbphcjacgnaaGreatDoorEvB
namespace Go.Proofs.YtkhmbphcjacgnaaGreatDoor
open Go Go.RowKit
def msl (P : Program) (H : RW) (t : TypeId) (x y : Value) : Option (Value × RW) :=
  match P.underlying t with
  | some (.slice e) => match P.info? e with
    | some i => match i.zero, x, y with
      | some z, .int _ l, .int _ c => bif decide (0 ≤ l) && decide (l ≤ c) && decide (c ≤ 1000000) && Nat.ble i.bytes 10000 && Nat.ble (c.toNat * i.size) 16777216 && (madeCells z.cells (c.toNat * i.size)).toList.all flat then
          some (.slice (some ⟨H.n, 0, none⟩) l.toNat c.toNat, H.push (.row (madeCells z.cells (c.toNat * i.size)).toList e)) else none
      | _, _, _ => none
    | none => none
  | _ => none
def ints8 : List Value → Option (List Int)
  | [] => some []
  | .int .u8 n :: l => match ints8 l with
    | some ns => some (n :: ns)
    | none => none
  | _ :: _ => none
def b2s (P : Program) (H : RW) (src dst : TypeId) (x : Value) : Option Value :=
  match svp P (Go.underlying src), svp P (Go.underlying dst), x with
  | some (.slice e), some .string, .slice (some ⟨i, o, none⟩) n _ => match svp P (Go.underlying e), cellsOf H i o n with
    | some (.int .u8), some vs => match ints8 vs with
      | some ns => some (.string (ns.foldl (fun r n => r.push (UInt8.ofNat n.toNat)) ByteArray.empty))
      | none => none
    | _, _ => none
  | _, _, _ => none
/-- a bound that is left out, or a number -/
def bnd (d : Nat) : Option Value → Option Nat
  | none => some d
  | some (.int _ n) => bif decide (0 ≤ n) then some n.toNat else none
  | _ => none
def slu (P : Program) (H : RW) (t : TypeId) (x : Value) (lo hi mx : Option Value) : Option Value :=
  match svp P (Go.underlying t), x with
  | some (.slice el), .slice (some ⟨i, o, none⟩) n c => match svp P (Go.sizeOf el), look i H.h, bnd 0 lo, bnd n hi with
    | some size, some (.own vs _ sz), some l, some h => match mx with
      | none => bif Nat.ble big c && Nat.beq sz size && Nat.ble l h && Nat.ble ((c - big + h) * sz) vs.length && (Nat.beq l 0 || Nat.blt l h) && Nat.blt 0 sz then
          some (.slice (some ((⟨i, o, none⟩ : Addr).add (l * size))) (h - l) (c + l)) else none
      | some (.int _ m) => bif Nat.ble big c && Nat.beq sz size && Nat.ble l h && decide (0 ≤ m) && Nat.ble h m.toNat && Nat.ble ((c - big + m.toNat) * sz) vs.length && Nat.blt m.toNat big && Nat.blt 0 sz && hi.isSome then
          some (.slice (some (bif Nat.beq m.toNat l then ⟨i, o, none⟩ else (⟨i, o, none⟩ : Addr).add (l * size))) (h - l) (m.toNat - l)) else none
      | _ => none
    | _, _, _, _ => none
  | _, _ => none
/-- a text as bytes -/
def s2b (P : Program) (H : RW) (src dst : TypeId) (x : Value) : Option (Value × RW) :=
  match svp P (Go.underlying src), svp P (Go.underlying dst), x with
  | some _, some (.slice e), .string s => match svp P (Go.underlying e) with
    | some (.int .u8) => some (.slice (some ⟨H.n, 0, none⟩) s.size big, H.push (.ro (s.data.toList.map fun b => .int .u8 b.toNat)))
    | _ => none
  | _, _, _ => none
section
variable {P : Program} {X : Kep} {base : Nat} {E : Ren} {H : RW} {w w' : World}
theorem blt_of {x y : Nat} (h : x < y) : Nat.blt x y = true := by rw [Nat.blt_eq]; exact h
theorem msl_sound [Ltr] {t : TypeId} {x y v : Value} {H1 : RW} (R : Rep X base E H w) (e : msl P H t x y = some (v, H1)) :
    ∃ F v' w', (Instr.makeSlice t x y).run P w = .ok v' w' ∧ Ext E F ∧ Rep X base F H1 w' ∧ Kp X w w' ∧ Rel F v v' := by
  unfold msl at e
  split at e
  · rename_i el hu
    split at e
    · rename_i i hi
      split at e
      · rename_i z kl l kc c hz
        cases hc : (decide (0 ≤ l) && decide (l ≤ c) && decide (c ≤ 1000000) && Nat.ble i.bytes 10000 && Nat.ble (c.toNat * i.size) 16777216 && (madeCells z.cells (c.toNat * i.size)).toList.all flat) with
        | false => rw [hc] at e; cases e
        | true =>
          rw [hc] at e
          simp only [Bool.and_eq_true, decide_eq_true_eq] at hc
          obtain ⟨⟨⟨⟨⟨h1, h2⟩, h3⟩, h4⟩, h5⟩, h6⟩ := hc
          obtain ⟨rfl, rfl⟩ := Prod.mk.inj (Option.some.inj e)
          have hb := Nat.le_of_ble_eq_true h4
          have hbytes : (i.bytes : Int) * c ≤ 281474976710656 := by
            have h7 : (i.bytes : Int) ≤ 10000 := by omega
            have h8 : (i.bytes : Int) * c ≤ 10000 * 1000000 := Int.mul_le_mul h7 h3 (by omega) (by decide)
            omega
          have hr := run_makeSlice (P := P) w t el i z hu hi hz kl kc l c h1 h2 (Nat.le_of_ble_eq_true h5) hbytes (by omega)
          obtain ⟨p1, p2, p3⟩ := R.push (o := .row (madeCells z.cells (c.toNat * i.size)).toList el) (x := .cells (madeCells z.cells (c.toNat * i.size)) el) (k := 0) (fun F x => ⟨_, rfl, RelL.flats h6⟩)
          have hlt : Nat.blt c.toNat big = true := by
            cases hb : Nat.blt c.toNat big with
            | true => rfl
            | false =>
              have : ¬ c.toNat < big := fun h => by rw [blt_of h] at hb; cases hb
              unfold big at this
              omega
          exact ⟨_, _, _, hr, p2, p1, p3, relSl ⟨_, _, _, _, rfl, rfl, Ren.at⟩ hlt⟩
      · cases e
    · cases e
  · cases e
theorem run_loadCellsFrom {a : Addr} : ∀ (vs : List Value) (i : Nat) (acc : Array Value), (∀ j u, vs[j]? = some u → w.cell? (a.add (i + j)) = some u) → (Go.loadCellsFrom a i vs.length acc).run P w = .ok (acc ++ vs.toArray) w
  | [], i, acc, _ => by simp [Go.loadCellsFrom]
  | v :: vs, i, acc, h => by
    have h0 := h 0 v rfl
    have ih := run_loadCellsFrom vs (i + 1) (acc.push v) (fun j u hu => by
      have := h (j + 1) u (by simpa using hu)
      rwa [show i + (j + 1) = i + 1 + j by omega] at this)
    show (Go.load (a.add i) >>= fun v => Go.loadCellsFrom a (i + 1) vs.length (acc.push v)).run P w = _
    rw [Sem.run_bind]
    have hl : (Go.load (a.add i)).run P w = .ok v w := by
      simp only [Nat.add_zero] at h0
      simp [Go.load, Sem.run, h0]
    rw [hl, Result.andThen_ok, ih]
    congr 1
    apply Array.ext'
    simp
theorem ints8_eq : ∀ {vs : List Value} {ns : List Int}, ints8 vs = some ns → vs = ns.map (Value.int .u8)
  | [], ns, e => by obtain rfl := Option.some.inj e; rfl
  | v :: l, ns, e => by
    unfold ints8 at e
    split at e
    · rename_i h; cases h
    · rename_i n l' h
      obtain ⟨rfl, rfl⟩ := List.cons.inj h
      cases hl : ints8 l with
      | none => rw [hl] at e; cases e
      | some ms =>
        rw [hl] at e
        obtain rfl := Option.some.inj e
        rw [ints8_eq hl]
        rfl
    · cases e
theorem RelL.ints [Ltr] {ns : List Int} : ∀ {vs : List Value}, RelL E (ns.map (Value.int .u8)) vs → vs = ns.map (Value.int .u8) := by
  induction ns with
  | nil => intro vs h; cases h; rfl
  | cons n ns ih =>
    intro vs h
    cases h with
    | cons h t => rw [h.int, ih t]; rfl
theorem b2s_sound [Ltr] {src dst : TypeId} {x x' v : Value} (R : Rep X base E H w) (hx : Rel E x x') (e : b2s P H src dst x = some v) : (Go.convert src dst x').run P w = .ok v w ∧ flat v = true := by
  unfold b2s at e
  split at e
  · rename_i el i o n c hs hd
    split at e
    · rename_i vs he hvs
      cases hi : ints8 vs with
      | none => rw [hi] at e; cases e
      | some ns =>
        rw [hi] at e
        obtain rfl := Option.some.inj e
        refine ⟨?_, rfl⟩
        cases hx with
        | same hf => cases hf
        | @sl _ _ b k _ _ hE =>
          obtain ⟨vs', r, hl, hc⟩ := cellsOf_rel R hE n o hvs
          rw [ints8_eq hi] at r
          obtain rfl := RelL.ints r
          have hlen : (ns.map (Value.int .u8)).length = n := by rw [← hl, ints8_eq hi]
          have hload : (Go.loadCells (⟨b, o, none⟩ : Addr) n).run P w = .ok (ns.map (Value.int .u8)).toArray w := by
            have := run_loadCellsFrom (P := P) (w := w) (a := ⟨b, o, none⟩) (ns.map (Value.int .u8)) 0 #[] (fun j u hu => by rw [Addr.add_lit, Nat.zero_add]; exact hc j u hu)
            rw [hlen] at this
            simpa [Go.loadCells] using this
          have := run_bytesToString (P := P) w ⟨b, o, none⟩ n (room c k) ns hload
          show ((Go.underlying src) >>= _).run P w = _
          rw [Sem.run_bind, svp_run w hs, Result.andThen_ok, Sem.run_bind, svp_run w hd, Result.andThen_ok]
          dsimp only
          rw [Sem.run_bind, svp_run w he, Result.andThen_ok]
          exact this
    · cases e
  · cases e
theorem bnd_run {d : Nat} {v : Option Value} {l : Nat} (e : bnd d v = some l) : v = none ∧ l = d ∨ ∃ k n, v = some (.int k n) ∧ 0 ≤ n ∧ l = n.toNat := by
  unfold bnd at e
  split at e
  · exact .inl ⟨rfl, (Option.some.inj e).symm⟩
  · rename_i k n
    cases hn : decide (0 ≤ n) with
    | false => rw [hn] at e; cases e
    | true => rw [hn] at e; exact .inr ⟨k, n, rfl, of_decide_eq_true hn, (Option.some.inj e).symm⟩
  · cases e
theorem run_sliceBound {k : IntKind} {n : Int} {y : Nat} {c : BoundsCode} (h0 : 0 ≤ n) (h1 : n.toNat ≤ y) : (Instr.sliceBound (.int k n) y c).run P w = .ok n.toNat w := by
  have : n ≤ (y : Int) := by omega
  simp [Instr.sliceBound, asIntOf, h0, this]
theorem run_bounds [Ltr] {n m l h : Nat} {lo hi : Option Value} (el : bnd 0 lo = some l) (eh : bnd n hi = some h) (hl : l ≤ h) (hm : h ≤ m) : (Instr.sliceBounds true n m lo hi none).run P w = .ok (l, h, m) w := by
  rcases bnd_run el with ⟨rfl, rfl⟩ | ⟨k, a, rfl, h0, rfl⟩ <;> rcases bnd_run eh with ⟨rfl, rfl⟩ | ⟨k2, b, rfl, h2, rfl⟩
  · simp [Instr.sliceBounds]
  · simp [Instr.sliceBounds, run_sliceBound h2 hm]
  · simp [Instr.sliceBounds, run_sliceBound h0 hl]
  · simp [Instr.sliceBounds, run_sliceBound h2 hm, run_sliceBound h0 hl]
theorem run_bounds3 [Ltr] {n m cap l h : Nat} {k : IntKind} {mv : Int} {lo hi : Option Value} (h0 : 0 ≤ mv) (hm : m = mv.toNat) (hc : m ≤ cap) (el : bnd 0 lo = some l) (eh : bnd n hi = some h) (his : hi.isSome = true) (hl : l ≤ h) (hh : h ≤ m) :
    (Instr.sliceBounds true n cap lo hi (some (.int k mv))).run P w = .ok (l, h, m) w := by
  subst hm
  rcases bnd_run eh with ⟨rfl, rfl⟩ | ⟨k2, b, rfl, h2, rfl⟩
  · cases his
  rcases bnd_run el with ⟨rfl, rfl⟩ | ⟨k, a, rfl, h3, rfl⟩
  · simp [Instr.sliceBounds, run_sliceBound h0 hc, run_sliceBound h2 hh]
  · simp [Instr.sliceBounds, run_sliceBound h0 hc, run_sliceBound h2 hh, run_sliceBound h3 hl]
theorem slu_sound [Ltr] {t : TypeId} {x x' v : Value} {lo hi mx : Option Value} (R : Rep X base E H w) (hx : Rel E x x') (e : slu P H t x lo hi mx = some v) : ∃ v', (Instr.sliceAt t x' lo hi mx).run P w = .ok v' w ∧ Rel E v v' := by
  unfold slu at e
  split at e
  · rename_i el i o n c hu
    split at e
    · rename_i size vs ty sz l h hsz hlk hl hh
      cases hx with
      | same hf => cases hf
      | @sl _ _ b k _ _ hE =>
        obtain ⟨b2, k2, e2, xs, ys, hhp, rx, hxy, hmx⟩ := R.ok i _ hlk
        rw [hE] at e2
        obtain ⟨rfl, rfl⟩ := Prod.mk.inj (Option.some.inj e2)
        have hvl := rx.length
        have start : ∀ {cap l2 h2 m2 : Nat}, (Instr.sliceBounds true n cap lo hi mx).run P w = .ok (l2, h2, m2) w →
            (Instr.sliceAt t (.slice (some ⟨b, o, none⟩) n cap) lo hi mx).run P w = .ok (.slice (if m2 = l2 then some ⟨b, o, none⟩ else some ((⟨b, o, none⟩ : Addr).add (l2 * size))) (h2 - l2) (m2 - l2)) w := by
          intro cap l2 h2 m2 hb
          show ((Go.underlying t) >>= _).run P w = _
          rw [Sem.run_bind, svp_run w hu, Result.andThen_ok]
          show ((Go.underlying t) >>= _).run P w = _
          rw [Sem.run_bind, svp_run w hu, Result.andThen_ok]
          dsimp only
          rw [Sem.run_bind, hb, Result.andThen_ok]
          dsimp only
          rw [Sem.run_bind, svp_run w hsz, Result.andThen_ok]
          rfl
        have hcap : ∀ {q : Nat}, (c - big + q) * sz ≤ vs.length → 0 < sz → c - big + q ≤ k := by
          intro q h1 h2
          have : (c - big + q) * sz ≤ k * sz := by omega
          exact Nat.le_of_mul_le_mul_right this h2
        have hroom : big ≤ c → ∀ q, big ≤ c + q ∧ room (c + q) k = k - (c - big + q) := by
          intro hb q
          refine ⟨by omega, ?_⟩
          have hf : Nat.blt (c + q) big = false := by
            cases hq : Nat.blt (c + q) big with
            | true => have : c + q < big := Nat.le_of_ble_eq_true hq; omega
            | false => rfl
          unfold room
          rw [hf, cond_false]
          omega
        split at e
        · cases hc : (Nat.ble big c && Nat.beq sz size && Nat.ble l h && Nat.ble ((c - big + h) * sz) vs.length && (Nat.beq l 0 || Nat.blt l h) && Nat.blt 0 sz) with
          | false => rw [hc] at e; cases e
          | true =>
            rw [hc] at e
            simp only [Bool.and_eq_true, Bool.or_eq_true] at hc
            obtain ⟨⟨⟨⟨⟨c1, c2⟩, c3⟩, c4⟩, c5⟩, c6⟩ := hc
            have c1' := Nat.le_of_ble_eq_true c1
            obtain rfl := Nat.eq_of_beq_eq_true c2
            have c3' := Nat.le_of_ble_eq_true c3
            have hk := hcap (Nat.le_of_ble_eq_true c4) (Nat.le_of_ble_eq_true c6)
            obtain rfl := Option.some.inj e
            have hr0 := (hroom c1' 0).2
            rw [Nat.add_zero, Nat.add_zero] at hr0
            have hrun := start (run_bounds (P := P) (w := w) (m := room c k) hl hh c3' (by rw [hr0]; omega))
            refine ⟨_, hrun, ?_⟩
            have ha : RelAd E ⟨i, o, none⟩ ⟨b, o, none⟩ := ⟨_, _, _, _, rfl, rfl, hE⟩
            have hadd : (if room c k = l then some (⟨b, o, none⟩ : Addr) else some ((⟨b, o, none⟩ : Addr).add (l * sz))) = some ((⟨b, o, none⟩ : Addr).add (l * sz)) := by
              rcases c5 with c5 | c5
              · obtain rfl := Nat.eq_of_beq_eq_true c5
                simp [Addr.add]
              · have c5' : l < h := Nat.le_of_ble_eq_true c5
                rw [if_neg (by rw [hr0]; omega)]
            rw [hadd]
            obtain ⟨i2, o2, b2, k2, q1, q2, q3⟩ := ha.add (l * sz)
            rw [q1, q2]
            have hi2 : i2 = i := by
              have := congrArg Addr.block q1
              rw [Addr.add_lit] at this
              exact this.symm
            subst hi2
            rw [hE] at q3
            obtain ⟨rfl, rfl⟩ := Prod.mk.inj (Option.some.inj q3)
            have := Rel.sl (E := E) (o := o2) (n := h - l) (c := c + l) hE
            rwa [(hroom c1' l).2, show k - (c - big + l) = room c k - l by rw [hr0]; omega] at this
        · rename_i km mv
          cases hc : (Nat.ble big c && Nat.beq sz size && Nat.ble l h && decide (0 ≤ mv) && Nat.ble h mv.toNat && Nat.ble ((c - big + mv.toNat) * sz) vs.length && Nat.blt mv.toNat big && Nat.blt 0 sz && hi.isSome) with
          | false => rw [hc] at e; cases e
          | true =>
            rw [hc] at e
            simp only [Bool.and_eq_true, decide_eq_true_eq] at hc
            obtain ⟨⟨⟨⟨⟨⟨⟨⟨c1, c2⟩, c3⟩, c4⟩, c5⟩, c6⟩, c7⟩, c8⟩, c9⟩ := hc
            have c1' := Nat.le_of_ble_eq_true c1
            obtain rfl := Nat.eq_of_beq_eq_true c2
            have c3' := Nat.le_of_ble_eq_true c3
            have c5' := Nat.le_of_ble_eq_true c5
            have hk := hcap (Nat.le_of_ble_eq_true c6) (Nat.le_of_ble_eq_true c8)
            obtain rfl := Option.some.inj e
            have hr0 := (hroom c1' 0).2
            rw [Nat.add_zero, Nat.add_zero] at hr0
            have hrun := start (run_bounds3 (P := P) (w := w) (cap := room c k) c4 rfl (by rw [hr0]; omega) hl hh c9 c3' c5')
            refine ⟨_, hrun, ?_⟩
            have ha : RelAd E ⟨i, o, none⟩ ⟨b, o, none⟩ := ⟨_, _, _, _, rfl, rfl, hE⟩
            have hlt : Nat.blt (mv.toNat - l) big = true := by
              have : mv.toNat < big := Nat.le_of_ble_eq_true c7
              exact blt_of (by omega)
            cases hb : Nat.beq mv.toNat l with
            | true =>
              rw [if_pos (Nat.eq_of_beq_eq_true hb)]
              exact relSl ha hlt
            | false =>
              rw [if_neg (fun h => by rw [h, Nat.beq_refl] at hb; cases hb)]
              exact relSl (ha.add _) hlt
        · cases e
    · cases e
  · cases e
theorem s2b_sound [Ltr] {src dst : TypeId} {x v : Value} {H1 : RW} (R : Rep X base E H w) (e : s2b P H src dst x = some (v, H1)) :
    ∃ F v' w', (Go.convert src dst x).run P w = .ok v' w' ∧ Ext E F ∧ Rep X base F H1 w' ∧ Kp X w w' ∧ Rel F v v' := by
  unfold s2b at e
  split at e
  · rename_i d el s hs hd
    split at e
    · rename_i he
      obtain ⟨rfl, rfl⟩ := Prod.mk.inj (Option.some.inj e)
      obtain ⟨cap, hcap⟩ : ∃ cap, cap = (Question.appendCap s.size 0 el).cut (w.tape w.drawn (.appendCap s.size 0 el)) := ⟨_, rfl⟩
      let cs : Array Value := (s.data.map fun b => Value.int .u8 b.toNat) ++ Array.replicate (cap - s.size) (.int .u8 0)
      let w1 : World := { w with heap := w.heap.push (.cells cs el), drawn := w.drawn + 1 }
      let w2 : World := w1.freeze { block := w.heap.size, off := cs.size } 1
      have hb : w2.heap[w.heap.size]? = some (.cells cs el (cs.size, cs.size + 1)) := by
        show (World.freeze w1 _ 1).heap[w.heap.size]? = _
        unfold World.freeze
        rw [if_neg (by decide)]
        show (Array.modify (w.heap.push (.cells cs el)) w.heap.size _)[w.heap.size]? = _
        rw [Array.getElem?_modify, if_pos rfl, Array.getElem?_push_size]
        rfl
      have hg : w.grownBy w2 none := by
        refine ⟨rfl, rfl, rfl, by simp [w2, w1, World.freeze], fun k hk _ => ?_⟩
        have hne : w.heap.size ≠ k := by omega
        simp [w2, w1, World.freeze, Array.getElem?_modify, hne, Array.getElem?_push_lt hk, Array.getElem?_eq_getElem hk]
      obtain ⟨p1, p2, p3⟩ := R.grown (g := w.heap.size) (k := cap) (o := .ro (s.data.toList.map fun b => .int .u8 b.toNat)) hg (fun k h => by cases h) (.inl (Nat.le_refl _)) (fun F x => by
        refine ⟨cs, el, _, hb, fun j v hj => ⟨v, ?_, ?_⟩⟩
        · have hj' : j < s.data.size := by
            rcases Nat.lt_or_ge j s.data.size with h | h
            · exact h
            · rw [List.getElem?_eq_none (by simpa using h)] at hj; cases hj
          simp only [cs]
          rw [Array.getElem?_append_left (by simpa using hj')]
          simpa using hj
        · have : v ∈ s.data.toList.map fun b => Value.int .u8 b.toNat := List.mem_of_getElem? hj
          obtain ⟨b, _, rfl⟩ := List.mem_map.1 this
          exact .same rfl)
      refine ⟨_, .slice (some ⟨w.heap.size, 0, none⟩) s.size cap, w2, ?_, p2, p1, p3, rel_own Ren.at⟩
      show ((Go.underlying src) >>= _).run P w = _
      rw [Sem.run_bind, svp_run w hs, Result.andThen_ok, Sem.run_bind, svp_run w hd, Result.andThen_ok]
      have key : (Conv.stringToBytes el s).run P w = .ok (.slice (some ⟨w.heap.size, 0, none⟩) s.size cap) w2 := by
        have h1 : (choose (.appendCap s.size 0 el)).run P w = .ok cap { w with drawn := w.drawn + 1 } := by
          rw [hcap]; rfl
        have h2 : (newRow el cs).run P { w with drawn := w.drawn + 1 } = .ok ⟨w.heap.size, 0, none⟩ w1 := rfl
        have h4 : w1.shape? w.heap.size = some (el, cs.size) := by
          unfold World.shape?
          rw [show w1.heap[w.heap.size]? = some (.cells cs el) from Array.getElem?_push_size]
        have h3 : (markStringish ⟨w.heap.size, 0, none⟩).run P w1 = .ok () w2 := by
          show (match w1.shape? w.heap.size with | some (_, n) => Go.freeze { block := w.heap.size, off := n } 1 | _ => Pure.pure ()).run P w1 = _
          rw [h4]
          rfl
        unfold Conv.stringToBytes
        rw [Sem.run_bind, h1, Result.andThen_ok]
        show (newRow el cs >>= _).run P _ = _
        rw [Sem.run_bind, h2, Result.andThen_ok, Sem.run_bind, h3]
        rfl
      cases d <;> first
        | (dsimp only; rw [Sem.run_bind, svp_run w he, Result.andThen_ok]; exact key)
    · cases e
  · cases e
end
end Go.Proofs.YtkhmbphcjacgnaaGreatDoor
