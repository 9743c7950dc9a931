/-
  Letters: bytes of a text in memory, written in place; slices from a place on; a key that a map of numbers lacks; the next rune, whatever is said of it.
-/
import Derived.Test.YtanonhannngkmaaGreatDoorGw
import Derived.Test.YtanonhannngkmaaGreatDoorTw1
import Derived.Lib.DecodeNEq
namespace Go.Proofs.YtanonhannngkmaaGreatDoor
open Go Go.RowKit
/-- a text's bytes, and room behind: k in all; what lies behind is marked -/
def BytesIs (bs : List UInt8) (t : TypeId) (k : Nat) (y : Obj) : Prop := ∃ ys, y = .cells ⟨bs.map (fun b => .int .u8 b.toNat) ++ ys⟩ t (bs.length + ys.length, bs.length + ys.length + 1) ∧ bs.length ≤ k
/-- a text by its bytes: block a, list letter j -/
def cvB (src dst : TypeId) (x : Value) (a j : Nat) : ME :=
  ⟨fun op ρ H => match op with
    | .convert s d y => bif Nat.beq s src && Nat.beq d dst && pq (ρ y) x then some (.value (.complex .f64 H.n j), H.push (.opq a)) else none
    | _ => none⟩
theorem cvB_ok [Ltr] {X : Kep} {base src dst el a j : Nat} {x : Value} {s : ByteArray} (hs : svp Tryz.prog (Go.underlying src) = some .string) (hd : svp Tryz.prog (Go.underlying dst) = some (.slice el)) (he : svp Tryz.prog (Go.underlying el) = some (.int .u8)) (hx : ∀ (E : Ren) z, Rel E x z → z = .string s) (ha : ∀ k y, BytesIs s.data.toList el k y → Ltr.o a k y) (hz0 : Ltr.z j = 0) (hj : ∀ k, s.size ≤ k → Ltr.s j k s.size k) : MEOk Tryz.prog X base (cvB src dst x a j) where
  ok := by
    intro o ρ ρ' E H H1 nx w hρ R e
    simp only [cvB] at e
    split at e
    · rename_i s' d' y ho
      obtain ⟨hc, e⟩ := cond_some e
      simp only [Bool.and_eq_true] at hc
      obtain ⟨rfl, rfl⟩ := Prod.mk.inj (Option.some.inj e)
      have ry := hρ y (by rw [ho]; simp [Op.operands])
      rw [pq_eq hc.2] at ry
      have e1 := hx E _ ry
      rw [Nat.eq_of_beq_eq_true hc.1.1, Nat.eq_of_beq_eq_true hc.1.2] at ho
      obtain ⟨cap, hcap⟩ : ∃ cap, cap = (Question.appendCap s.size 0 el).cut (w.tape w.drawn (.appendCap s.size 0 el)) := ⟨_, rfl⟩
      let cs : Array Value := (s.data.map fun b => Value.int .u8 b.toNat) ++ Array.replicate (cap - s.size) (.int .u8 0)
      let w1 : World := { w with heap := w.heap.push (.cells cs el), drawn := w.drawn + 1 }
      let w2 : World := w1.freeze { block := w.heap.size, off := cs.size } 1
      have hb : w2.heap[w.heap.size]? = some (.cells cs el (cs.size, cs.size + 1)) := by
        show (World.freeze w1 _ 1).heap[w.heap.size]? = _
        unfold World.freeze
        rw [if_neg (by decide)]
        show (Array.modify (w.heap.push (.cells cs el)) w.heap.size _)[w.heap.size]? = _
        rw [Array.getElem?_modify, if_pos rfl, Array.getElem?_push_size]
        rfl
      have hg : w.grownBy w2 none := by
        refine ⟨rfl, rfl, rfl, by simp [w2, w1, World.freeze], fun k hk _ => ?_⟩
        have hne : w.heap.size ≠ k := by omega
        simp [w2, w1, World.freeze, Array.getElem?_modify, hne, Array.getElem?_push_lt hk, Array.getElem?_eq_getElem hk]
      have hcs : cs = ⟨s.data.toList.map (fun b => Value.int .u8 b.toNat) ++ List.replicate (cap - s.size) (.int .u8 0)⟩ := by
        apply Array.ext'
        simp [cs]
      have hle : s.size ≤ cap := by
        rw [hcap]
        simp [Question.cut]
      obtain ⟨p1, p2, p3⟩ := R.grown (g := w.heap.size) (k := cap) (o := .opq a) hg (fun k h => by cases h) (.inl (Nat.le_refl _)) (fun F x => ⟨_, hb, ha _ _ ⟨List.replicate (cap - s.size) (.int .u8 0), by
        rw [hcs]
        simp only [List.size_toArray, List.length_append, List.length_map], hle⟩⟩)
      refine ⟨_, .value (.slice (some ⟨w.heap.size, 0, none⟩) s.size cap), w2, ?_, p2, p1, p3, .sll0 Ren.at hz0 (hj cap hle)⟩
      have key : (Conv.stringToBytes el s).run Tryz.prog w = .ok (.slice (some ⟨w.heap.size, 0, none⟩) s.size cap) w2 := by
        have h1 : (choose (.appendCap s.size 0 el)).run Tryz.prog w = .ok cap { w with drawn := w.drawn + 1 } := by
          rw [hcap]; rfl
        have h2 : (newRow el cs).run Tryz.prog { w with drawn := w.drawn + 1 } = .ok ⟨w.heap.size, 0, none⟩ w1 := rfl
        have h4 : w1.shape? w.heap.size = some (el, cs.size) := by
          unfold World.shape?
          rw [show w1.heap[w.heap.size]? = some (.cells cs el) from Array.getElem?_push_size]
        have h3 : (markStringish ⟨w.heap.size, 0, none⟩).run Tryz.prog w1 = .ok () w2 := by
          show (match w1.shape? w.heap.size with | some (_, n) => Go.freeze { block := w.heap.size, off := n } 1 | _ => Pure.pure ()).run Tryz.prog w1 = _
          rw [h4]
          rfl
        unfold Conv.stringToBytes
        rw [Sem.run_bind, h1, Result.andThen_ok]
        show (newRow el cs >>= _).run Tryz.prog _ = _
        rw [Sem.run_bind, h2, Result.andThen_ok, Sem.run_bind, h3]
        rfl
      simp only [execOp, ho, e1]
      refine run_value ?_
      show ((Go.underlying src) >>= _).run Tryz.prog w = _
      rw [Sem.run_bind, svp_run w hs, Result.andThen_ok, Sem.run_bind, svp_run w hd, Result.andThen_ok]
      show ((Go.underlying el) >>= _).run Tryz.prog w = _
      rw [Sem.run_bind, svp_run w he, Result.andThen_ok]
      exact key
    · cases e
  q := by
    intro o ρ H H1 nx e
    simp only [cvB] at e
    split at e
    · rename_i s d y
      refine ⟨fun c h => (by cases h), fun h => ?_⟩
      obtain ⟨hc, _⟩ := cond_some e
      simp only [Bool.and_eq_true] at hc
      unfold quiet at h
      dsimp only at h
      rw [Nat.eq_of_beq_eq_true hc.1.2, hd] at h
      cases h
    · cases e
/-- the text of the bytes at block a, list letter j: letter r -/
def cvT (src dst a j : Nat) (r : Value) : ME :=
  ⟨fun op ρ H => match op with
    | .convert s d y => match ρ y with
      | .complex .f64 i jj => match look i H.h with
        | some (.opq aa) => bif Nat.beq s src && Nat.beq d dst && Nat.beq jj j && Nat.beq aa a then some (.value r, H) else none
        | _ => none
      | _ => none
    | _ => none⟩
theorem ints_of_bytes : ∀ bs : List UInt8, ints8 (bs.map fun b => .int .u8 b.toNat) = some (bs.map fun b => (b.toNat : Int))
  | [] => rfl
  | b :: bs => by
    rw [List.map_cons, ints8, ints_of_bytes bs]
    rfl
theorem push_bytes : ∀ (bs : List UInt8) (r : ByteArray), (bs.map fun b => (b.toNat : Int)).foldl (fun r n => r.push (UInt8.ofNat n.toNat)) r = ⟨⟨r.data.toList ++ bs⟩⟩
  | [], ⟨⟨l⟩⟩ => by simp
  | b :: bs, ⟨⟨l⟩⟩ => by
    rw [List.map_cons, List.foldl_cons, push_bytes bs]
    have : (ByteArray.push ⟨⟨l⟩⟩ (UInt8.ofNat (b.toNat : Int).toNat)).data.toList = l ++ [b] := by
      show (Array.push ⟨l⟩ _).toList = _
      rw [Array.toList_push, Int.toNat_natCast]
      simp
    rw [this, List.append_assoc]
    rfl
theorem cvT_ok [Ltr] {X : Kep} {base src dst el a j : Nat} {r : Value} {bs : List UInt8} (hs : svp Tryz.prog (Go.underlying src) = some (.slice el)) (hd : svp Tryz.prog (Go.underlying dst) = some .string) (he : svp Tryz.prog (Go.underlying el) = some (.int .u8)) (ha : ∀ k y, Ltr.o a k y → BytesIs bs el k y) (hz0 : Ltr.z j = 0) (hj : ∀ k n c, Ltr.s j k n c → n = bs.length) (hr : ∀ E : Ren, Rel E r (.string ⟨⟨bs⟩⟩)) : MEOk Tryz.prog X base (cvT src dst a j r) where
  ok := by
    intro o ρ ρ' E H H1 nx w hρ R e
    simp only [cvT] at e
    split at e
    · rename_i s' d' y ho
      split at e
      · rename_i i jj hy
        split at e
        · rename_i aa hl
          obtain ⟨hc, e⟩ := cond_some e
          simp only [Bool.and_eq_true] at hc
          obtain ⟨rfl, rfl⟩ := Prod.mk.inj (Option.some.inj e)
          have ry := hρ y (by rw [ho]; simp [Op.operands])
          rw [hy] at ry
          generalize hv : ρ' y = v at ry
          cases ry with
          | same hf => cases hf
          | @sll _ _ b k n c hE hsl =>
          rw [Nat.eq_of_beq_eq_true hc.1.2] at hsl hv
          obtain rfl := hj _ _ _ hsl
          rw [hz0] at hv
          rw [Nat.eq_of_beq_eq_true hc.2] at hl
          rw [Nat.eq_of_beq_eq_true hc.1.1.1, Nat.eq_of_beq_eq_true hc.1.1.2] at ho
          obtain ⟨b', k', e', yo, hyo, hlo⟩ := R.ok i _ hl
          rw [hE] at e'; obtain ⟨rfl, rfl⟩ := Prod.mk.inj (Option.some.inj e')
          obtain ⟨ys, rfl, _⟩ := ha _ _ hlo
          refine Does.pure R (hr E) ?_
          simp only [execOp, ho, hv]
          refine run_value ?_
          have hcell : ∀ (m : Nat) u, (bs.map fun b => Value.int .u8 b.toNat)[m]? = some u → w.cell? ((⟨b, 0, none⟩ : Addr).add (0 + m)) = some u := by
            intro m u hu
            rw [Addr.add_lit, Nat.zero_add]
            have hlt : m < (bs.map fun b => Value.int .u8 b.toNat).length := (List.getElem?_eq_some_iff.1 hu).1
            simp only [World.cell?, hyo]
            simp [List.getElem?_append_left hlt, hu]
          have hload : (Go.loadCells (⟨b, 0, none⟩ : Addr) bs.length).run Tryz.prog w = .ok ((bs.map fun b => (b.toNat : Int)).map (Value.int .u8)).toArray w := by
            have := run_loadCellsFrom (P := Tryz.prog) (w := w) (a := ⟨b, 0, none⟩) (bs.map fun b => Value.int .u8 b.toNat) 0 #[] hcell
            rw [List.length_map] at this
            simpa [Go.loadCells, Function.comp_def] using this
          have h3 := run_bytesToString (P := Tryz.prog) w ⟨b, 0, none⟩ bs.length c _ hload
          rw [push_bytes] at h3
          show ((Go.underlying src) >>= _).run Tryz.prog w = _
          rw [Sem.run_bind, svp_run w hs, Result.andThen_ok, Sem.run_bind, svp_run w hd, Result.andThen_ok]
          dsimp only
          rw [Sem.run_bind, svp_run w he, Result.andThen_ok]
          exact h3
        · cases e
      · cases e
    · cases e
  q := by
    intro o ρ H H1 nx e
    simp only [cvT] at e
    split at e
    · split at e
      · split at e
        · obtain ⟨hc, e⟩ := cond_some e
          obtain ⟨rfl, rfl⟩ := Prod.mk.inj (Option.some.inj e)
          exact ⟨fun c h => (by cases h), fun _ => ⟨rfl, _, rfl⟩⟩
        · cases e
      · cases e
    · cases e
theorem add_at {b o n : Nat} : (⟨b, o, none⟩ : Addr).add n = ⟨b, o + n, none⟩ := by
  unfold Addr.add
  split
  · rename_i h0
    rw [h0, Nat.add_zero]
  · rfl
/-- a slice from a place on -/
def soE (t : TypeId) (i j : Nat) (x : Value) (j' : Nat) : OE :=
  ⟨fun o ρ => match o with
    | .slice t' a (some b) none none => Nat.beq t' t && pq (ρ b) x && (match ρ a with
      | .complex .f64 ii jj => Nat.beq ii i && Nat.beq jj j
      | _ => false)
    | _ => false, .complex .f64 i j'⟩
theorem soE_ok [Ltr] {t e i j j' d N sz : Nat} {x : Value} (hu : Tryz.prog.underlying t = some (.slice e)) (hz : svp Tryz.prog (Go.sizeOf e) = some sz) (hj : ∀ k n c, Ltr.s j k n c → n = N ∧ d < c ∧ n ≤ c) (hx : ∀ (E : Ren) z, Rel E x z → z = .int .i64 d) (hd : d ≤ N) (hq : Ltr.z j' = Ltr.z j + d * sz) (hj' : ∀ k n c, Ltr.s j k n c → Ltr.s j' k (N - d) (c - d)) : OEOk Tryz.prog (soE t i j x j') := by
  intro o ρ ρ' E hr hf w
  simp only [soE] at hf
  split at hf
  · rename_i t' a b ho
    simp only [Bool.and_eq_true] at hf
    obtain ⟨⟨h1, h2⟩, h3⟩ := hf
    rw [ho] at hr
    have ra := hr a (by simp [Op.operands])
    have rb := hr b (by simp [Op.operands])
    rw [pq_eq h2] at rb
    have e2 := hx E _ rb
    split at h3
    · rename_i ii jj hxx
      rw [hxx] at ra
      simp only [Bool.and_eq_true] at h3
      generalize hy : ρ' a = y at ra
      cases ra with
      | same hf => cases hf
      | @sll _ _ bk k n c hE hs =>
      rw [Nat.eq_of_beq_eq_true h3.2] at hs hy
      rw [Nat.eq_of_beq_eq_true h3.1] at hE
      obtain ⟨rfl, hdc, hnc⟩ := hj _ _ _ hs
      rw [Nat.eq_of_beq_eq_true h1] at ho
      have hr2 := Rel.sll (E := E) hE (hj' _ _ _ hs)
      rw [hq] at hr2
      refine ⟨_, ?_, hr2, fun c e => by rw [ho] at e; cases e⟩
      simp only [execOp, ho, hy, e2, Option.map_some, Option.map_none]
      refine run_value ?_
      have hb := run_bounds (P := Tryz.prog) (w := w) (n := n) (m := c) (l := d) (h := n) (lo := some (.int .i64 (d : Int))) (hi := none) rfl rfl hd hnc
      show ((Go.underlying t) >>= _).run Tryz.prog w = _
      rw [Sem.run_bind, run_underlying hu, Result.andThen_ok]
      show ((Go.underlying t) >>= _).run Tryz.prog w = _
      rw [Sem.run_bind, run_underlying hu, Result.andThen_ok]
      dsimp only
      rw [Sem.run_bind, hb, Result.andThen_ok]
      dsimp only
      rw [Sem.run_bind, svp_run w hz, Result.andThen_ok, if_neg (by omega), Option.map_some, add_at]
      rfl
    · cases h3
  · cases hf
/-- the address of an element of the list letter j in block i: whatever the index is -/
def iaV (t i j : Nat) (y : Value) (p : Nat) : OE :=
  ⟨fun o ρ => match o with
    | .indexAddr t' a b => Nat.beq t' t && pq (ρ b) y && (match ρ a with
      | .complex .f64 ii jj => Nat.beq ii i && Nat.beq jj j
      | _ => false)
    | _ => false, .complex .f32 i p⟩
theorem iaV_ok [Ltr] {t e i j p d sz : Nat} {y : Value} (hu : Tryz.prog.underlying t = some (.slice e)) (hz : svp Tryz.prog (Go.sizeOf e) = some sz) (hj : ∀ k n c, Ltr.s j k n c → d < n) (hy : ∀ (E : Ren) z, Rel E y z → z = .int .i64 d) (hp : Ltr.p p (Ltr.z j + d * sz)) : OEOk Tryz.prog (iaV t i j y p) := by
  intro o ρ ρ' E hr hf w
  simp only [iaV] at hf
  split at hf
  · rename_i t' a b ho
    simp only [Bool.and_eq_true] at hf
    obtain ⟨⟨h1, h2⟩, h3⟩ := hf
    rw [ho] at hr
    have ra := hr a (by simp [Op.operands])
    have rb := hr b (by simp [Op.operands])
    rw [pq_eq h2] at rb
    have e2 := hy E _ rb
    split at h3
    · rename_i ii jj hx
      rw [hx] at ra
      simp only [Bool.and_eq_true] at h3
      generalize hv : ρ' a = v at ra
      cases ra with
      | same hf => cases hf
      | @sll _ _ bk k n c hE hs =>
      rw [Nat.eq_of_beq_eq_true h3.2] at hs hv
      rw [Nat.eq_of_beq_eq_true h3.1] at hE
      have hd := hj _ _ _ hs
      rw [Nat.eq_of_beq_eq_true h1] at ho
      refine ⟨.pointer (some ⟨bk, Ltr.z j + d * sz, none⟩), ?_, .ptl hE hp, fun c e => by rw [ho] at e; cases e⟩
      simp only [execOp, ho, hv, e2]
      refine run_value ?_
      show ((Go.asIntOf (.int .i64 (d : Int))) >>= _).run Tryz.prog w = _
      rw [Sem.run_bind]
      show (Result.ok (IntKind.i64, (d : Int)) w).andThen _ = _
      rw [Result.andThen_ok]
      dsimp only
      rw [Sem.run_bind, run_underlying hu, Result.andThen_ok]
      simp only [pure_bind]
      rw [Sem.run_bind, run_underlying hu, Result.andThen_ok]
      rw [if_pos (by omega), Sem.run_bind, svp_run w hz, Result.andThen_ok, Int.toNat_natCast, add_at]
      rfl
    · cases h3
  · cases hf
/-- what is put at the place p of block letter a: block letter b -/
def stC (t a p b : Nat) (x : Value) : ME :=
  ⟨fun op ρ H => match op with
    | .store t' y z => match ρ y with
      | .complex .f32 i pp => match look i H.h with
        | some (.opq aa) => bif Nat.beq t' t && Nat.beq pp p && Nat.beq aa a && pq (ρ z) x && Nat.ble 64 i then some (.skip, { H with h := upd i (.opq b) H.h }) else none
        | _ => none
      | _ => none
    | _ => none⟩
theorem setCell_is {w : World} {b o : Nat} {u : Value} {cs : Array Value} {t : TypeId} {f : Nat × Nat} (h : w.heap[b]? = some (.cells cs t f)) : w.setCell ⟨b, o, none⟩ u = { w with heap := w.heap.setIfInBounds b (.cells (cs.setIfInBounds o u) t f) } := by
  have hb : b < w.heap.size := (Array.getElem?_eq_some_iff.1 h).1
  unfold World.setCell
  congr 1
  apply Array.ext_getElem?
  intro i
  rw [Array.getElem?_modify, Array.getElem?_setIfInBounds]
  by_cases hi : b = i
  · subst hi
    rw [if_pos rfl, if_pos rfl, h]
    simp [hb]
  · rw [if_neg hi, if_neg hi]
theorem stC_ok [Ltr] {t a p b off : Nat} {X : Kep} {x u : Value} (ht : svp Tryz.prog (Go.sizeOf t) = some 1) (hp : ∀ o, Ltr.p p o → o = off) (hx : ∀ (E : Ren) z, Rel E x z → z = u) (hu : single u = true)
    (ha : ∀ k y, Ltr.o a k y → ∃ cs tt lo hi, y = .cells cs tt (lo, hi) ∧ off < cs.size ∧ off < lo ∧ Ltr.o b k (.cells (cs.setIfInBounds off u) tt (lo, hi))) : MEOk Tryz.prog X 64 (stC t a p b x) where
  ok := by
    intro o ρ ρ' E H H1 nx w hρ R e
    simp only [stC] at e
    split at e
    · rename_i t' y z ho
      split at e
      · rename_i i pp hy
        split at e
        · rename_i aa hl
          obtain ⟨hc, e⟩ := cond_some e
          simp only [Bool.and_eq_true] at hc
          obtain ⟨rfl, rfl⟩ := Prod.mk.inj (Option.some.inj e)
          have ry := hρ y (by rw [ho]; simp [Op.operands])
          have rz := hρ z (by rw [ho]; simp [Op.operands])
          rw [hy] at ry
          rw [pq_eq hc.1.2] at rz
          have ez := hx E _ rz
          generalize hv : ρ' y = v at ry
          cases ry with
          | same hf => cases hf
          | @ptl _ _ bk k oo hE hs =>
          rw [Nat.eq_of_beq_eq_true hc.1.1.1.2] at hs
          obtain rfl := hp _ hs
          rw [Nat.eq_of_beq_eq_true hc.1.1.2] at hl
          rw [Nat.eq_of_beq_eq_true hc.1.1.1.1] at ho
          obtain ⟨b', k', e', yo, hyo, hlo⟩ := R.ok i _ hl
          rw [hE] at e'; obtain ⟨rfl, rfl⟩ := Prod.mk.inj (Option.some.inj e')
          obtain ⟨cs, tt, lo, hi, rfl, h1, h2, h3⟩ := ha _ _ hlo
          obtain ⟨R1, b1⟩ := R.setOb (o' := .opq b) (Nat.le_of_ble_eq_true hc.2) hl rfl hE ⟨_, rfl, h3⟩
          refine ⟨E, .skip, _, ?_, Ext.refl E, R1, b1, trivial⟩
          simp only [execOp, ho, hv, ez]
          show (Instr.storeAt t _ _ >>= _).run Tryz.prog w = _
          have hcell : w.cell? ⟨bk, oo, none⟩ = some (cs[oo]'h1) := by simp [World.cell?, hyo, h1]
          have hfz : w.frozen? ⟨bk, oo, none⟩ = false := by
            simp only [World.frozen?, hyo]
            simp only [Bool.and_eq_false_iff, decide_eq_false_iff_not]
            exact .inl (by omega)
          have hcs : u.cells = #[u] := by
            cases u with
            | agg c => cases hu
            | _ => rfl
          have hst : (Go.storeVar t ⟨bk, oo, none⟩ u).run Tryz.prog w = .ok () (w.setCell ⟨bk, oo, none⟩ u) := by
            unfold Go.storeVar
            rw [hcs, Sem.run_bind, svp_run w ht, Result.andThen_ok]
            show (Go.storeCells ⟨bk, oo, none⟩ [u] 0).run Tryz.prog w = _
            unfold Go.storeCells
            rw [add_at, Nat.add_zero, Sem.run_bind, run_store (fun c h => (by rw [h] at hu; cases hu)) (fun c h => (by rw [h] at hu; cases hu)) hcell hfz, Result.andThen_ok]
            rfl
          rw [Sem.run_bind]
          show ((Go.storeVar t ⟨bk, oo, none⟩ u).run Tryz.prog w).andThen _ = _
          rw [hst, setCell_is hyo]
          rfl
        · cases e
      · cases e
    · cases e
  q := by
    intro o ρ H H1 nx e
    simp only [stC] at e
    split at e
    · exact ⟨fun c h => (by cases h), fun h => (by cases h)⟩
    · cases e
/-- is it one of these numbers? -/
def isK (ks : List Int) (e : MapEntry) : Bool := match e.key with
  | .int .i32 n => ks.any (· == n)
  | _ => false
/-- a map of numbers lacks the letter i -/
def nkE (t : TypeId) (ks : List Int) (i : Nat) (z : Value) : ME :=
  ⟨fun op ρ H => match op with
    | .lookup t' m k true => match ρ m with
      | .map (some j) => match look j H.h with
        | some (.mp es _) => bif Nat.beq t' t && pq (ρ k) (Lt i) && es.all (isK ks) then some (.value (.tuple ⟨[z, .bool false]⟩), H) else none
        | _ => none
      | _ => none
    | _ => none⟩
theorem nk_fk {r : Int} {ks : List Int} (h : ∀ n ∈ ks, n ≠ r) : ∀ {es : List MapEntry} {i : Nat}, es.all (isK ks) = true → fkN (.int .i32) (.int .i32 r) es i = some none
  | [], i, _ => rfl
  | e :: es, i, ha => by
    simp only [List.all_cons, Bool.and_eq_true] at ha
    have h1 := ha.1
    unfold isK at h1
    split at h1
    · rename_i n hn
      obtain ⟨m, hm, hmn⟩ := List.any_eq_true.1 h1
      have hmn : m = n := by simpa using hmn
      subst hmn
      have hs : Instr.sameNow (.int .i32) (.int .i32 r) e.key = some false := by
        rw [hn]
        have hne : ¬ r = m := fun hh => h m hm hh.symm
        simp [Instr.sameNow, hne]
      simp only [fkN, hs]
      exact nk_fk h ha.2
    · cases h1
theorem nkE_ok [Ltr] {X : Kep} {base i : Nat} {t kt el : TypeId} {r : Int} {ks : List Int} {z : Value} (hu : Tryz.prog.underlying t = some (.map kt el)) (hk : Tryz.prog.underlying kt = some (.int .i32)) (hz : svp Tryz.prog (Go.zeroValue el) = some z) (hzf : flat z = true) (hi : Ltr.v i = some (.int .i32 r)) (h : ∀ n ∈ ks, n ≠ r) : MEOk Tryz.prog X base (nkE t ks i z) where
  ok := by
    intro o ρ ρ' E H H1 nx w hρ hR e
    simp only [nkE] at e
    split at e
    · rename_i t' m k ho
      split at e
      · rename_i j hm
        split at e
        · rename_i es c hl
          obtain ⟨hc, e⟩ := cond_some e
          simp only [Bool.and_eq_true] at hc
          obtain ⟨rfl, rfl⟩ := Prod.mk.inj (Option.some.inj e)
          have rm := hρ m (by rw [ho]; simp [Op.operands])
          have rk := hρ k (by rw [ho]; simp [Op.operands])
          rw [pq_eq hc.1.2] at rk
          have e2 := is_ltr hi E _ rk
          rw [Nat.eq_of_beq_eq_true hc.1.1] at ho
          have hml : mlk Tryz.prog H t (ρ m) (.int .i32 r) true = some (.tuple ⟨[z, .bool false]⟩) := by
            unfold mlk
            rw [hu]
            have hck : ck Tryz.prog kt (.int .i32 r) = true := by unfold ck; rw [hk]
            dsimp only
            rw [hck, cond_true, hm]
            unfold mfd
            dsimp only
            rw [hl]
            dsimp only
            have : fk Tryz.prog kt (.int .i32 r) es = some none := by
              unfold fk
              dsimp only
              rw [hk]
              exact nk_fk h hc.2
            rw [this]
            unfold mans
            dsimp only
            rw [hz]
            dsimp only
            rw [hzf]
            rfl
          obtain ⟨v', h1, h2⟩ := mlk_sound hR rm hml
          refine ⟨E, .value v', w, ?_, Ext.refl E, hR, Kp.refl _ _, h2⟩
          simp only [execOp, ho, e2]
          exact run_value h1
        · cases e
      · cases e
    · cases e
  q := by
    intro o ρ H H1 nx e
    simp only [nkE] at e
    split at e
    · refine ⟨fun c h => (by cases h), fun _ => ?_⟩
      split at e
      · split at e
        · obtain ⟨_, e⟩ := cond_some e
          obtain ⟨rfl, rfl⟩ := Prod.mk.inj (Option.some.inj e)
          exact ⟨rfl, _, rfl⟩
        · cases e
      · cases e
    · cases e
/-- the next rune: r, at letter i, of block a, block b behind -/
def nxtV (a b i : Nat) (r : Value) : ME :=
  ⟨fun op ρ H => match op with
    | .next x true => match ρ x with
      | .pointer (some ⟨j, 0, none⟩) => match look j H.h with
        | some (.opq a') => bif Nat.beq a' a && Nat.ble 64 j then some (.value (.tuple ⟨[.bool true, Lt i, r]⟩), { H with h := upd j (.opq b) H.h }) else none
        | _ => none
      | _ => none
    | _ => none⟩
theorem nxtV_ok [Ltr] {X : Kep} {a b i p c n : Nat} {r : Value} {s : ByteArray} (hd : Utf8.decode s p = (c, n)) (ha : ∀ k y, Ltr.o a k y → y = .stringIter s p) (hp : p < s.size) (hi : Ltr.v i = some (.int .i64 p)) (hr : ∀ E : Ren, Rel E r (.int .i32 c)) (hb : ∀ k, Ltr.o b k (.stringIter s (p + n))) : MEOk Tryz.prog X 64 (nxtV a b i r) where
  ok := by
    intro o ρ ρ' E H H1 nx w hρ hR e
    simp only [nxtV] at e
    split at e
    · rename_i x ho
      split at e
      · rename_i j hx
        split at e
        · rename_i a' hl
          obtain ⟨hc, e⟩ := cond_some e
          simp only [Bool.and_eq_true] at hc
          obtain ⟨rfl, rfl⟩ := Prod.mk.inj (Option.some.inj e)
          have rx := hρ x (by rw [ho]; simp [Op.operands])
          rw [hx] at rx
          generalize hy : ρ' x = y at rx
          cases rx with
          | same hf => cases hf
          | @ptr _ _ bk k hE =>
          obtain ⟨b', k', e', y, hxx, hoo⟩ := hR.ok j _ hl
          rw [hE] at e'; obtain ⟨rfl, rfl⟩ := Prod.mk.inj (Option.some.inj e')
          rw [Nat.eq_of_beq_eq_true hc.1] at hoo
          rw [ha _ _ hoo] at hxx
          have hg : (Go.getObj bk).run Tryz.prog w = .ok (.stringIter s p) w := by simp [Go.getObj, Sem.run, hxx]
          obtain ⟨R1, b1⟩ := hR.setOb (o' := .opq b) (y := .stringIter s (p + n)) (Nat.le_of_ble_eq_true hc.2) hl rfl hE ⟨_, rfl, hb k⟩
          refine ⟨E, .value (.tuple #[.bool true, .int .i64 p, .int .i32 c]), _, ?_, Ext.refl E, R1, b1, .tuple (.cons (.same rfl) (.cons (.ltr hi rfl) (.cons (hr E) .nil)))⟩
          simp only [execOp, ho, hy]
          refine run_value ?_
          have hso : (Go.setObj bk (.stringIter s (p + n))).run Tryz.prog w = .ok () { w with heap := w.heap.setIfInBounds bk (.stringIter s (p + n)) } := by simp [Go.setObj, Sem.run, hxx]
          simp only [Instr.next, Sem.run_bind, hg, Result.andThen_ok, hp, if_true, hd, hso, Sem.run_pure]
          rfl
        · cases e
      · cases e
    · cases e
  q := by
    intro o ρ H H1 nx e
    simp only [nxtV] at e
    split at e
    · exact ⟨fun c h => (by cases h), fun h => (by cases h)⟩
    · cases e
/-- a byte put in place -/
theorem bytes_set {bs : List UInt8} {t : TypeId} {k p : Nat} {y : Obj} {b : UInt8} (h : BytesIs bs t k y) (hp : p < bs.length) : ∃ cs tt lo hi, y = .cells cs tt (lo, hi) ∧ p < cs.size ∧ p < lo ∧ BytesIs (bs.set p b) t k (.cells (cs.setIfInBounds p (.int .u8 b.toNat)) tt (lo, hi)) := by
  obtain ⟨ys, rfl, hk⟩ := h
  refine ⟨_, _, _, _, rfl, by simp only [List.size_toArray, List.length_append, List.length_map]; omega, by omega, ys, ?_, by rw [List.length_set]; exact hk⟩
  rw [List.length_set]
  congr 1
  apply Array.ext'
  rw [Array.toList_setIfInBounds, List.set_append_left _ _ (by rw [List.length_map]; exact hp), List.map_set]
theorem bytes_at {bs : List UInt8} {t : TypeId} {k p : Nat} {y : Obj} (h : BytesIs bs t k y) (hp : p < bs.length) : ∃ cs tt fz, y = .cells cs tt fz ∧ cs[p]? = some (.int .u8 (bs[p].toNat : Nat)) := by
  obtain ⟨ys, rfl, hk⟩ := h
  refine ⟨_, _, _, rfl, ?_⟩
  simp [List.getElem?_append_left, hp]
end Go.Proofs.YtanonhannngkmaaGreatDoor
/-
  A run over letters that leaves a list: told behind it; such a call as a known one.
-/
namespace Go.Proofs.YtanonhannngkmaaGreatDoor
open Go Go.RowKit
/-- over letters f answers v, and name i holds o -/
def SymH (O : List OE) (M : List ME) (C : List CE) (pr : Prim) (n : Nat) (f : FuncId) (args : List Value) (v : Value) (i : Nat) (o : Ob) : Prop := (callEv Tryz.prog pr 64 (@codeQ (orcG 64 64 O M C) Tryz.prog pr 64 64 n false) f args ⟨64, []⟩).map (fun p => (p.1, look i p.2.h)) = some (v, some o)
theorem startG (i : Nat) (h : i < 64) : ∃ k, startE 64 i = some (i, k) := ⟨0, by unfold startE; rw [show Nat.blt i 64 = true by simpa [Nat.blt_eq] using h]; rfl⟩
theorem symH0 [Ltr] [Orc] {pr : Prim} {n : Nat} {f : FuncId} {args args' : List Value} {v : Value} {i : Nat} {o : Ob} {w : World} [OrcOk Tryz.prog 64 (kep w) 64] (hp : PrimOk Tryz.prog pr 64 (kep w) 64) (ha : RelL (startE 64) args args') (hi : 64 ≤ i)
    (e : (callEv Tryz.prog pr 64 (codeQ Tryz.prog pr 64 64 n false) f args ⟨64, []⟩).map (fun p => (p.1, look i p.2.h)) = some (v, some o)) :
    Calls Tryz.prog f ⟨args'⟩ w fun e w' => ∃ v' F b k, e = .returned v' ∧ Rel F v v' ∧ Below w.heap.size w w' ∧ F i = some (b, k) ∧ w.heap.size ≤ b ∧ Ok F k o w'.heap[b]? := by
  cases hc : callEv Tryz.prog pr 64 (codeQ Tryz.prog pr 64 64 n false) f args ⟨64, []⟩ with
  | none => rw [hc] at e; cases e
  | some p =>
    obtain ⟨u, K1⟩ := p
    rw [hc] at e
    obtain ⟨rfl, hl⟩ := Prod.mk.inj (Option.some.inj e)
    have hl : look i K1.h = some o := hl
    rw [codeQ_eq] at hc
    refine Calls.mono (callEv_sound hp (codeEv_sound mixed hp n false) f args ⟨64, []⟩ u K1 (startE 64) w args' (rep_start (T := []) an rfl) startG ha hc) ?_
    rintro e w' ⟨v', F, rfl, -, R1, k1, rv⟩
    obtain ⟨b, k, hE, ho⟩ := R1.ok i o hl
    refine ⟨v', F, b, k, rfl, rv, ⟨k1.os, k1.tape, k1.output, k1.size, fun j hj => k1.block j hj⟩, hE, ?_, ho⟩
    exact Nat.le_of_not_lt fun h => R1.new i b k hi hE h
theorem symH (L : Ltr) {O : List OE} {M : List ME} {C : List CE} {pr : Prim} (n : Nat) {f : FuncId} {args args' : List Value} {v : Value} {i : Nat} {o : Ob} {w : World} (hO : ∀ e ∈ O, @OEOkX L Tryz.prog (kep w) e) (hM : ∀ e ∈ M, @MEOk L Tryz.prog (kep w) 64 e) (hC : ∀ c ∈ C, @CEOk L Tryz.prog 64 (kep w) 64 c) (hp : @PrimOk L Tryz.prog pr 64 (kep w) 64) (ha : @RelL L (startE 64) args args') (hi : 64 ≤ i) (e : SymH O M C pr n f args v i o) :
    Calls Tryz.prog f ⟨args'⟩ w fun e w' => ∃ v' F b k, e = .returned v' ∧ @Rel L F v v' ∧ Below w.heap.size w w' ∧ F i = some (b, k) ∧ w.heap.size ≤ b ∧ @Ok L F k o w'.heap[b]? :=
  @symH0 L (orcG 64 64 O M C) pr n f args args' v i o w (@orcG_ok _ _ _ _ L _ _ _ hO hM hC) hp ha hi e
/-- .. an answer, with any known calls -/
theorem symI' (L : Ltr) {O : List OE} {M : List ME} {C : List CE} {pr : Prim} (n : Nat) {f : FuncId} {args args' : List Value} {v : Value} {w : World} (hO : ∀ e ∈ O, @OEOkX L Tryz.prog (kep w) e) (hM : ∀ e ∈ M, @MEOk L Tryz.prog (kep w) 64 e) (hC : ∀ c ∈ C, @CEOk L Tryz.prog 64 (kep w) 64 c) (hp : @PrimOk L Tryz.prog pr 64 (kep w) 64) (ha : @RelL L (startE 64) args args') (e : SymP O M C pr n f args v) :
    Calls Tryz.prog f ⟨args'⟩ w fun e w' => ∃ v' F, e = .returned v' ∧ @Rel L F v v' ∧ Below w.heap.size w w' :=
  (@run_callQ L (orcG 64 64 O M C) Tryz.prog w pr 64 64 (@orcG_ok _ _ _ _ L _ _ _ hO hM hC) (startE 64) mixed f ⟨64, []⟩ v args args' hp n (@rep_start L 64 [] w an rfl) startG ha e).mono fun _ _ p => by
    obtain ⟨v', F, h1, _, h2, h3⟩ := p
    exact ⟨v', F, h1, h2, h3⟩
/-- a call that leaves one block, of which letter o says something -/
def newP (g : FuncId) (xs : List Value) (v : Nat → Value) (o : Nat) : Prim := fun f args H => bif Nat.beq f g && pqs args xs then some (v H.n, H.push (.opq o)) else none
theorem newP_ok [Ltr] {P : Program} {G base : Nat} {X : Kep} {g : FuncId} {xs : List Value} {v : Nat → Value} {o : Nat}
    (h : ∀ (E : Ren) (w : World) (args' : List Value), (∀ b, X b → w.heap[b]? = X.ob b) → RelL E xs args' → Calls P g ⟨args'⟩ w fun e w' => ∃ b k y u, e = .returned u ∧ Below w.heap.size w w' ∧ w.heap.size ≤ b ∧ w'.heap[b]? = some y ∧ Ltr.o o k y ∧ ∀ (F : Ren) n, F n = some (b, k) → Rel F (v n) u) : PrimOk P (newP g xs v o) G X base := by
  intro f args H u H1 E w args' hR hG hr e
  unfold newP at e
  obtain ⟨hc, e⟩ := cond_some e
  simp only [Bool.and_eq_true] at hc
  obtain ⟨rfl, rfl⟩ := Prod.mk.inj (Option.some.inj e)
  rw [Nat.eq_of_beq_eq_true hc.1]
  rw [pqs_eq hc.2] at hr
  refine (h E w args' hR.fx hr).mono ?_
  rintro e w' ⟨b, k, y, u, rfl, hb, hlb, hy, ho, hv⟩
  have hg : w.grownBy w' none := ⟨hb.os, hb.tape, hb.output, hb.size, fun j hj _ => hb.block j hj⟩
  obtain ⟨p1, p2, p3⟩ := hR.grown (g := b) (k := k) (o := .opq o) hg (fun k h => by cases h) (.inl hlb) (fun F x => ⟨y, hy, ho⟩)
  exact ⟨u, _, rfl, p2, p1, p3, hv _ _ Ren.at⟩
/-- texts as values -/
def strs (xs : List (List UInt8)) : List Value := xs.map fun x => .string ⟨⟨x⟩⟩
theorem strs_flat (xs : List (List UInt8)) : (strs xs).all flat = true := by
  unfold strs
  simp [flat]
/-- a list of texts that a call has left, from block B on -/
def ListAt (t : TypeId) (B : Nat) (w' : World) (V : Value) (xs : List (List UInt8)) : Prop := ∃ b k y, V = .slice (some ⟨b, 0, none⟩) xs.length k ∧ B ≤ b ∧ w'.heap[b]? = some y ∧ LsIs (strs xs) t 1 k y
end Go.Proofs.YtanonhannngkmaaGreatDoor
/-
  fold: runes of a text's bytes, plainly.
-/
namespace Go.Proofs.YtanonhannngkmaaGreatDoor
namespace Fld
/-- of a first byte: how many bytes, the second one's bounds; 0: it is none -/
def ld3 (c : Nat) : Nat × Nat × Nat :=
  if c < 128 then (1, 128, 191) else if c < 194 then (0, 128, 191) else if c < 224 then (2, 128, 191) else if c = 224 then (3, 160, 191) else if c < 237 then (3, 128, 191) else if c = 237 then (3, 128, 159) else if c < 240 then (3, 128, 191)
  else if c = 240 then (4, 144, 191) else if c < 244 then (4, 128, 191) else if c = 244 then (4, 128, 143) else (0, 128, 191)
/-- are the further bytes within? -/
def tail : Nat → Nat → Nat → List UInt8 → Bool
  | 0, _, _, _ => true
  | _ + 1, _, _, [] => false
  | k + 1, lo, hi, b :: l => (Nat.ble lo b.toNat && Nat.ble b.toNat hi) && tail k 128 191 l
/-- how many bytes the first rune has; 0: there is none -/
def step : List UInt8 → Nat
  | [] => 0
  | c :: l => bif tail ((ld3 c.toNat).1 - 1) (ld3 c.toNat).2.1 (ld3 c.toNat).2.2 l then (ld3 c.toNat).1 else 0
/-- a rune's bytes -/
def Vr (x : List UInt8) : Prop := x ≠ [] ∧ step x = x.length
theorem tail_app {m : List UInt8} : ∀ {k lo hi : Nat} {l : List UInt8}, tail k lo hi l = true → tail k lo hi (l ++ m) = true
  | 0, _, _, _, _ => rfl
  | k + 1, _, _, [], h => by cases h
  | k + 1, _, _, b :: l, h => by
    simp only [tail, List.cons_append, Bool.and_eq_true] at h ⊢
    exact ⟨h.1, tail_app h.2⟩
theorem tail_take : ∀ {k lo hi : Nat} {l : List UInt8}, tail k lo hi l = true → k ≤ l.length ∧ tail k lo hi (l.take k) = true
  | 0, _, _, _, _ => ⟨Nat.zero_le _, rfl⟩
  | k + 1, _, _, [], h => by cases h
  | k + 1, _, _, b :: l, h => by
    simp only [tail, Bool.and_eq_true] at h
    obtain ⟨h1, h2⟩ := tail_take h.2
    refine ⟨by simpa using h1, ?_⟩
    simp only [List.take_succ_cons, tail, Bool.and_eq_true]
    exact ⟨h.1, h2⟩
theorem step_at {c : UInt8} {l : List UInt8} {n lo hi : Nat} (h : ld3 c.toNat = (n, lo, hi)) : step (c :: l) = bif tail (n - 1) lo hi l then n else 0 := by
  simp only [step, h]
theorem step_take {l : List UInt8} (h : step l ≠ 0) : step l ≤ l.length ∧ Vr (l.take (step l)) := by
  cases l with
  | nil => exact absurd rfl h
  | cons c l =>
    obtain ⟨n, lo, hi⟩ : Nat × Nat × Nat := ld3 c.toNat
    obtain ⟨q, hq⟩ : ∃ q, ld3 c.toNat = q := ⟨_, rfl⟩
    obtain ⟨n, lo, hi⟩ := q
    rw [step_at hq] at h ⊢
    cases ht : tail (n - 1) lo hi l with
    | false => rw [ht] at h; exact absurd rfl h
    | true =>
      rw [ht, cond_true] at h
      rw [cond_true]
      obtain ⟨k, rfl⟩ : ∃ k, n = k + 1 := ⟨n - 1, by omega⟩
      obtain ⟨h1, h2⟩ := tail_take ht
      have h1 : k ≤ l.length := h1
      refine ⟨by simpa using h1, by simp, ?_⟩
      rw [List.take_succ_cons, step_at hq, show k + 1 - 1 = k from rfl] at *
      rw [h2, cond_true, List.length_cons, List.length_take]
      omega
theorem Vr.pos {x : List UInt8} (h : Vr x) : 0 < x.length := List.length_pos_iff.2 h.1
theorem Vr.app {x : List UInt8} (h : Vr x) (y : List UInt8) : step (x ++ y) = x.length := by
  cases x with
  | nil => exact absurd rfl h.1
  | cons c l =>
    have h2 := h.2
    obtain ⟨q, hq⟩ : ∃ q, ld3 c.toNat = q := ⟨_, rfl⟩
    obtain ⟨n, lo, hi⟩ := q
    rw [List.cons_append, step_at hq]
    rw [step_at hq] at h2
    cases ht : tail (n - 1) lo hi l with
    | false => rw [ht] at h2; cases h2
    | true =>
      rw [ht, cond_true] at h2
      rw [tail_app ht, cond_true, h2]
/-- a text: runes, and behind them what begins with none -/
theorem parts (l : List UInt8) : ∃ xs rest, l = List.flatten xs ++ rest ∧ (∀ x ∈ xs, Vr x) ∧ step rest = 0 := by
  by_cases h : step l = 0
  · exact ⟨[], l, by simp, by simp, h⟩
  · obtain ⟨h1, h2⟩ := step_take h
    obtain ⟨xs, rest, e, h3, h4⟩ := parts (l.drop (step l))
    refine ⟨l.take (step l) :: xs, rest, ?_, ?_, h4⟩
    · rw [List.flatten_cons, List.append_assoc, ← e, List.take_append_drop]
    · intro x hx
      rcases List.mem_cons.1 hx with rfl | hx
      · exact h2
      · exact h3 x hx
termination_by l.length
decreasing_by
  rw [List.length_drop]
  have : 0 < step l := Nat.pos_of_ne_zero h
  omega
/-- a rune's number -/
def g (l : List UInt8) (i : Nat) : Nat := (l.getD i 0).toNat
def rv (x : List UInt8) : Nat :=
  match x.length with
  | 1 => g x 0
  | 2 => g x 0 % 32 * 64 + g x 1 % 64
  | 3 => g x 0 % 16 * 4096 + g x 1 % 64 * 64 + g x 2 % 64
  | _ => g x 0 % 8 * 262144 + g x 1 % 64 * 4096 + g x 2 % 64 * 64 + g x 3 % 64
open Go.Lib
theorem ble_iff {a b : Nat} : Nat.ble a b = decide (a ≤ b) := by
  rw [Bool.eq_iff_iff]; simp
theorem slow2 {b0 lo hi : Nat} (c : UInt8) (hc : c.toNat = b0) (l : List UInt8) : slowN (l.length + 1) b0 (g l 0) (g l 1) (g l 2) 2 lo hi = bif tail 1 lo hi l then (rv ((c :: l).take 2), 2) else (65533, 1) := by
  cases l with
  | nil => simp [slowN, tail]
  | cons x l =>
    simp only [tail, ble_iff, Bool.and_true, slowN, g, List.getD_cons_zero, List.length_cons]
    by_cases h1 : lo ≤ x.toNat <;> by_cases h2 : x.toNat ≤ hi <;> simp [h1, h2, rv, g, hc, show ¬ l.length + 1 + 1 < 2 by omega, Nat.not_lt.2, Nat.not_le.1] <;> omega
theorem slow3 {b0 lo hi : Nat} (c : UInt8) (hc : c.toNat = b0) (l : List UInt8) : slowN (l.length + 1) b0 (g l 0) (g l 1) (g l 2) 3 lo hi = bif tail 2 lo hi l then (rv ((c :: l).take 3), 3) else (65533, 1) := by
  match l with
  | [] => simp [slowN, tail]
  | [x] => simp [slowN, tail]
  | x :: y :: l =>
    simp only [tail, ble_iff, Bool.and_true, slowN, g, List.getD_cons_zero, List.getD_cons_succ, List.length_cons]
    by_cases h1 : lo ≤ x.toNat <;> by_cases h2 : x.toNat ≤ hi <;> by_cases h3 : 128 ≤ y.toNat <;> by_cases h4 : y.toNat ≤ 191 <;> simp [h1, h2, h3, h4, rv, g, hc, show ¬ l.length + 1 + 1 + 1 < 3 by omega, Nat.not_lt.2, Nat.not_le.1] <;> omega
set_option maxHeartbeats 400000 in
theorem slow4 {b0 lo hi : Nat} (c : UInt8) (hc : c.toNat = b0) (l : List UInt8) : slowN (l.length + 1) b0 (g l 0) (g l 1) (g l 2) 4 lo hi = bif tail 3 lo hi l then (rv ((c :: l).take 4), 4) else (65533, 1) := by
  match l with
  | [] => simp [slowN, tail]
  | [x] => simp [slowN, tail]
  | [x, y] => simp [slowN, tail]
  | x :: y :: z :: l =>
    simp only [tail, ble_iff, Bool.and_true, slowN, g, List.getD_cons_zero, List.getD_cons_succ, List.length_cons]
    by_cases h1 : lo ≤ x.toNat <;> by_cases h2 : x.toNat ≤ hi <;> by_cases h3 : 128 ≤ y.toNat <;> by_cases h4 : y.toNat ≤ 191 <;> by_cases h5 : 128 ≤ z.toNat <;> by_cases h6 : z.toNat ≤ 191 <;> simp [h1, h2, h3, h4, h5, h6, rv, g, hc, show ¬ l.length + 1 + 1 + 1 + 1 < 4 by omega, Nat.not_lt.2, Nat.not_le.1] <;> omega
theorem g_lt (l : List UInt8) (i : Nat) : g l i < 256 := UInt8.toNat_lt _
/-- what is decoded where a rune begins, or none -/
theorem decode_step (c : UInt8) (l : List UInt8) : decodeN (l.length + 1) c.toNat (g l 0) (g l 1) (g l 2) = bif Nat.beq (step (c :: l)) 0 then (65533, 1) else (rv ((c :: l).take (step (c :: l))), step (c :: l)) := by
  have l1 := g_lt l 0
  have l2 := g_lt l 1
  have l3 := g_lt l 2
  have hn : 1 ≤ l.length + 1 := by omega
  have fin : ∀ {n lo hi : Nat}, ld3 c.toNat = (n + 1, lo, hi) → decodeN (l.length + 1) c.toNat (g l 0) (g l 1) (g l 2) = (bif tail n lo hi l then (rv ((c :: l).take (n + 1)), n + 1) else (65533, 1)) → decodeN (l.length + 1) c.toNat (g l 0) (g l 1) (g l 2) = bif Nat.beq (step (c :: l)) 0 then (65533, 1) else (rv ((c :: l).take (step (c :: l))), step (c :: l)) := by
    intro n lo hi h1 h2
    rw [h2, step_at h1, Nat.add_sub_cancel]
    cases tail n lo hi l <;> rfl
  by_cases h1 : c.toNat < 128
  · refine fin (n := 0) (lo := 128) (hi := 191) (by simp [ld3, h1]) ?_
    simp [decodeN, h1, tail, rv, g]
  by_cases h2 : c.toNat < 194
  · have e : ld3 c.toNat = (0, 128, 191) := by simp [ld3, h1, h2]
    rw [bad_eq _ _ _ _ _ (UInt8.toNat_lt c) (by unfold firstT; simp [h1, h2]), step_at e]
    rfl
  by_cases h3 : c.toNat < 224
  · exact fin (n := 1) (lo := 128) (hi := 191) (by simp [ld3, h1, h2, h3]) (by rw [← slow_C2 _ _ _ _ _ hn l1 l2 l3 (by omega)]; exact slow2 c rfl l)
  by_cases h4 : c.toNat = 224
  · exact fin (n := 2) (lo := 160) (hi := 191) (by simp [ld3, h4]) (by rw [← slow_E0 _ _ _ _ _ hn l1 l2 l3 h4]; exact slow3 c rfl l)
  by_cases h5 : c.toNat < 237
  · exact fin (n := 2) (lo := 128) (hi := 191) (by simp [ld3, h1, h2, h3, h4, h5]) (by rw [← slow_E1 _ _ _ _ _ hn l1 l2 l3 (by omega)]; exact slow3 c rfl l)
  by_cases h6 : c.toNat = 237
  · exact fin (n := 2) (lo := 128) (hi := 159) (by simp [ld3, h6]) (by rw [← slow_ED _ _ _ _ _ hn l1 l2 l3 h6]; exact slow3 c rfl l)
  by_cases h7 : c.toNat < 240
  · exact fin (n := 2) (lo := 128) (hi := 191) (by simp [ld3, h1, h2, h3, h4, h5, h6, h7]) (by rw [← slow_E1 _ _ _ _ _ hn l1 l2 l3 (by omega)]; exact slow3 c rfl l)
  by_cases h8 : c.toNat = 240
  · exact fin (n := 3) (lo := 144) (hi := 191) (by simp [ld3, h8]) (by rw [← slow_F0 _ _ _ _ _ hn l1 l2 l3 h8]; exact slow4 c rfl l)
  by_cases h9 : c.toNat < 244
  · exact fin (n := 3) (lo := 128) (hi := 191) (by simp [ld3, h1, h2, h3, h4, h5, h6, h7, h8, h9]) (by rw [← slow_F1 _ _ _ _ _ hn l1 l2 l3 (by omega)]; exact slow4 c rfl l)
  by_cases h10 : c.toNat = 244
  · exact fin (n := 3) (lo := 128) (hi := 143) (by simp [ld3, h10]) (by rw [← slow_F4 _ _ _ _ _ hn l1 l2 l3 h10]; exact slow4 c rfl l)
  · have e : ld3 c.toNat = (0, 128, 191) := by simp [ld3, h1, h2, h3, h4, h5, h6, h7, h8, h9, h10]
    rw [bad_eq _ _ _ _ _ (UInt8.toNat_lt c) (by unfold firstT; simp [h1, h2, h3, h4, h5, h6, h7, h8, h9, h10]), step_at e]
    rfl
theorem get_g {s : ByteArray} {p : Nat} {l : List UInt8} (h : s.data.toList.drop p = l) (i : Nat) : (s.get! (p + i)).toNat = g l i := by
  unfold g
  rw [← h, List.getD_eq_getElem?_getD, List.getElem?_drop]
  obtain ⟨⟨d⟩⟩ := s
  show ((⟨d⟩ : Array UInt8)[p + i]!).toNat = (d[p + i]?.getD 0).toNat
  rw [Array.getElem!_eq_getD, Array.getD_eq_getD_getElem?, List.getElem?_toArray]
  rfl
theorem dec_at {s : ByteArray} {p : Nat} {c : UInt8} {l : List UInt8} (h : s.data.toList.drop p = c :: l) : Utf8.decode s p = bif Nat.beq (step (c :: l)) 0 then (65533, 1) else (rv ((c :: l).take (step (c :: l))), step (c :: l)) := by
  have hl : s.size - p = l.length + 1 := by
    have := congrArg List.length h
    rw [List.length_drop, List.length_cons] at this
    exact this
  rw [decode_at, ← decode_step, hl, ← Nat.add_zero p, get_g h 0, get_g h 1, get_g h 2, get_g h 3]
  rfl
end Fld
end Go.Proofs.YtanonhannngkmaaGreatDoor
/-
  Letters: texts and their bytes; slices.Index over texts.
-/
namespace Go.Proofs.YtanonhannngkmaaGreatDoor
open Go Go.RowKit
theorem ba_beq (a b : ByteArray) : (a == b) = decide (a = b) := by
  have key : (a == b) = true ↔ a = b := by
    obtain ⟨x⟩ := a
    obtain ⟨y⟩ := b
    constructor
    · intro h
      have e : x = y := by simpa using (show (x == y) = true from h)
      rw [e]
    · intro h
      have e : x = y := ByteArray.mk.inj h
      subst e
      show (x == x) = true
      simp
  rw [Bool.eq_iff_iff, key]
  simp
def elOf (s : Value) (j : Nat) : Addr := match s with
  | .slice (some a) _ _ => a.add j
  | _ => ⟨0, 0, none⟩
theorem sb_eq [Ltr] {x y : Value} {s t : ByteArray} {b : Bool} (hx : ∀ (E : Ren) z, Rel E x z → z = .string s) (hy : ∀ (E : Ren) z, Rel E y z → z = .string t) (h : decide (s = t) = b) : OEOk Tryz.prog (binT .eql 9 9 x y (.bool b)) :=
  binT_ok fun o ρ u v E w ho ha hb => by
    have e1 := hx E _ ha
    have e2 := hy E _ hb
    refine ⟨.bool b, ?_, .same rfl⟩
    subst h
    simp only [execOp, ho, e1, e2]
    go_simp
    exact (beq_toListBytes s t).symm.trans (ba_beq s t)
theorem ix_ltr [Ltr] {i j k p : Nat} {s : ByteArray} (hi : Ltr.v i = some (.string s)) (hk : Ltr.v k = some (.int .i64 p)) (hp : p < s.size) (hj : Ltr.v j = some (.int .u8 (s[p].toNat : Nat))) : OEOk Tryz.prog (idxE 9 (Lt i) (Lt k) (Lt j)) :=
  idxE_ok fun o ρ a b E w ho ha hb => by
    have e1 := is_ltr hi E _ ha
    have e2 := is_ltr hk E _ hb
    refine ⟨.int .u8 (s[p].toNat : Nat), ?_, .ltr hj rfl⟩
    simp only [execOp, ho, e1, e2]
    go_simp
theorem ix_num [Ltr] {i j p : Nat} {s : ByteArray} (hi : Ltr.v i = some (.string s)) (hp : p < s.size) (hj : Ltr.v j = some (.int .u8 (s[p].toNat : Nat))) : OEOk Tryz.prog (idxE 9 (Lt i) (.int .i64 p) (Lt j)) :=
  idxE_ok fun o ρ a b E w ho ha hb => by
    have e1 := is_ltr hi E _ ha
    have e2 := is_flat rfl E _ hb
    refine ⟨.int .u8 (s[p].toNat : Nat), ?_, .ltr hj rfl⟩
    simp only [execOp, ho, e1, e2]
    go_simp
theorem len_ba [Ltr] {i j : Nat} {s : ByteArray} (hi : Ltr.v i = some (.string s)) (hj : Ltr.v j = some (.int .i64 s.size)) : OEOk Tryz.prog (lenE 9 (Lt i) (Lt j)) :=
  lenE_ok fun o ρ a E w ho ha => by
    have e1 := is_ltr hi E _ ha
    refine ⟨.int .i64 s.size, ?_, .ltr hj rfl⟩
    simp only [execOp, ho]
    go_simp
namespace Tbl
/-- where a text stands first -/
def idx (s : ByteArray) : List ByteArray → Nat → Option Nat
  | [], _ => none
  | t :: l, j => bif decide (s = t) then some j else idx s l (j + 1)
theorem idx_any {s : ByteArray} : ∀ {l : List ByteArray} {j : Nat}, (idx s l j).isSome = l.any fun t => decide (t = s)
  | [], _ => rfl
  | t :: l, j => by
    unfold idx
    rw [List.any_cons, show decide (t = s) = decide (s = t) by rw [decide_eq_decide]; exact eq_comm]
    cases decide (s = t) with
    | true => rfl
    | false => rw [cond_false, Bool.false_or]; exact idx_any
end Tbl
noncomputable def siB : Code := inLoop (loopOf Tryz.prog 17 0)
def siS : St := ⟨fr 19 [(0, Lt 0), (1, Lt 1), (7, Lt 2), (8, Lt 3)], ⟨64, []⟩, []⟩
def siX (o : Option Nat) : Exit := match o with
  | none => .exit 0
  | some _ => .ret
def siE (o : Option Nat) : St := match o with
  | none => ⟨fr 19 [], ⟨64, []⟩, []⟩
  | some _ => ⟨fr 19 [(4, Lt 7)], ⟨64, []⟩, []⟩
noncomputable def siC (o : Option Nat) : CE := ⟨.loop siB, traL [(.int .i64 0, Lt 3), (Lt 0, Lt 0), (Lt 1, Lt 1), (Lt 2, Lt 2)] [] [], 64, [], siS, siX o, siE o⟩
def siL0 : List OE := [binE .lss (Lt 3) (Lt 2) (.bool true), iaE 28 (Lt 0) (Lt 3) (Lt 4), ldE 9 (Lt 4) (Lt 5)]
theorem si_run1 (n : Nat) : ComG (binT .eql 9 9 (Lt 1) (Lt 5) (.bool true) :: siL0) [] [] [] 40 siB siS .ret (traL [(Lt 3, Lt 7)] [] []) 64 [] (siE (some n)) := by show _ = _; kernel_rfl
theorem si_run2 : ComG (binT .eql 9 9 (Lt 1) (Lt 5) (.bool false) :: binE .add (Lt 3) (.int .i64 (1 : Nat)) (Lt 6) :: siL0) [] [] [] 40 siB siS .normal (traL [(Lt 6, Lt 3), (Lt 0, Lt 0), (Lt 1, Lt 1), (Lt 2, Lt 2)] [] []) 64 [] siS := by show _ = _; kernel_rfl
theorem si_run3 : ComG [binE .lss (Lt 3) (Lt 2) (.bool false)] [] [] [] 40 siB siS (.exit 0) (traL [] [] []) 64 [] (siE none) := by show _ = _; kernel_rfl
theorem si_run4 : SymG [lenE 28 (Lt 0) (Lt 2)] [] [siC none] [] 40 17 [Lt 0, Lt 1] (.int .i64 (-1)) := by delta SymG; show _ = _; kernel_rfl
theorem si_run5 (n : Nat) : SymG [lenE 28 (Lt 0) (Lt 2)] [] [siC (some n)] [] 40 17 [Lt 0, Lt 1] (Lt 7) := by delta SymG; show _ = _; kernel_rfl
abbrev siLt (S : Value) (s : ByteArray) (l : List ByteArray) (n j : Nat) : Ltr := ltrL [S, .string s, .int .i64 l.length, .int .i64 j, .pointer (some (elOf S j)), .string (l.getD j ⟨#[]⟩), .int .i64 (j + 1 : Nat), .int .i64 n]
/-- texts in memory: a slice of them -/
def TextsIn (w : World) (S : Value) (l : List ByteArray) : Prop := l.length ≤ 1000000 ∧ ∃ A cp, S = .slice A l.length cp ∧ ∀ (j : Nat) x, l[j]? = some x → ∃ a : Addr, A = some a ∧ elOf S j = a.add j ∧ w.cell? (a.add j) = some (.string x)
theorem TextsIn.keep {w w' : World} {S : Value} {l : List ByteArray} (h : TextsIn w S l) (k : ∀ b, (kep w) b → w'.heap[b]? = (kep w).ob b) : TextsIn w' S l := by
  obtain ⟨h1, A, cp, h2, h3⟩ := h
  refine ⟨h1, A, cp, h2, fun j x hj => ?_⟩
  obtain ⟨a, h4, h5, h6⟩ := h3 j x hj
  exact ⟨a, h4, h5, cell_keep h6 k⟩
theorem si_ce {w : World} {S : Value} {l : List ByteArray} (hS : TextsIn w S l) (s : ByteArray) {o : Option Nat} (ho : Tbl.idx s l 0 = o) : @CEOk (siLt S s l (o.getD 0) 0) Tryz.prog 64 (kep w) 64 (siC o) := by
  obtain ⟨hlen, A, cp, hA, hel⟩ := hS
  refine @ce_of Tryz.prog 64 (kep w) 64 (siLt S s l (o.getD 0) 0) Nat (fun j => siLt S s l (o.getD 0) j) (fun _ => siS) (fun j => l.length - j) (fun j => j ≤ l.length ∧ Tbl.idx s (l.drop j) j = o) (siC o) siB rfl ?_ 0 ⟨Nat.zero_le _, by simpa using ho⟩ rfl (traL_ok (ac (fl_go rfl rfl rfl) (ac (lt_go rfl) (ac (lt_go rfl) (ac (lt_go rfl) an)))) an an) an
  rintro j ⟨hj, hd⟩ ro k E a w' h
  let L : Ltr := siLt S s l (o.getD 0) j
  by_cases hlt : j < l.length
  · have hgd : l.getD j ⟨#[]⟩ = l[j] := by simp [hlt]
    obtain ⟨ad, hA2, he, hcell⟩ := hel j l[j] (by simp [hlt])
    rw [List.drop_eq_getElem_cons hlt, Tbl.idx] at hd
    have h0 : L.v 0 = some (.slice (some ad) l.length cp) := by show some S = _; rw [hA, hA2]
    have h4 : L.v 4 = some (.pointer (some (ad.add j))) := by show some (Value.pointer (some (elOf S j))) = _; rw [he]
    have h5 : L.v 5 = some (.string l[j]) := by show some (Value.string (l.getD j ⟨#[]⟩)) = _; rw [hgd]
    have hO : ∀ e ∈ siL0, @OEOkX L Tryz.prog (kep w) e := ac (@bll L _ _ _ _ _ _ _ rfl rfl (xk_lt (decide_eq_true hlt)) (@to_flat L _ rfl)).x (ac (@a_el L 0 4 3 _ _ _ _ h0 rfl h4 hlt).x (ac (@l_el L (kep w) 4 5 _ _ h4 h5 fun w2 k => cell_keep hcell k) an))
    cases hq : decide (s = l[j]) with
    | true =>
      rw [hq] at hd
      obtain rfl : some j = o := hd
      refine r_out (by intro h; cases h) (toldG L (ac (@sb_eq L _ _ _ _ _ (@is_ltr L 1 _ rfl) (@is_ltr L 5 _ h5) hq).x hO) an an an (traL_ok ?_ an an) an (si_run1 j) h)
      exact ac (lt_go rfl) an
    | false =>
      rw [hq] at hd
      refine r_on (j + 1) (toldG L (ac (@sb_eq L _ _ _ _ _ (@is_ltr L 1 _ rfl) (@is_ltr L 5 _ h5) hq).x (ac (@bl L _ _ _ _ _ _ rfl rfl (x_add (n := j) (m := 1) (by omega)) (@to_ltr L 6 _ rfl rfl)).x hO)) an an an (traL_ok ?_ an an) an si_run2 h) ⟨hlt, hd⟩ (by show l.length - (j + 1) < l.length - j; omega)
      exact ac (lt_go rfl) (ac (lt_go rfl) (ac (lt_go rfl) (ac (lt_go rfl) an)))
  · rw [List.drop_eq_nil_of_le (by omega)] at hd
    obtain rfl : none = o := hd
    exact r_out (by intro h; cases h) (toldG L (ac (@bll L _ _ _ _ _ _ _ rfl rfl (xk_lt (decide_eq_false hlt)) (@to_flat L _ rfl)).x an) an an an (traL_ok an an an) an si_run3 h)
def idxI (o : Option Nat) : Int := match o with
  | some j => j
  | none => -1
theorem index_any {w : World} {S : Value} {l : List ByteArray} (hS : TextsIn w S l) (s : ByteArray) : Calls Tryz.prog 17 #[S, .string s] w fun e w' => e = .returned (.int .i64 (idxI (Tbl.idx s l 0))) ∧ Below w.heap.size w w' := by
  have hc := fun o ho => si_ce hS s (o := o) ho
  have hs : sgl S = true := by obtain ⟨_, A, cp, hA, _⟩ := hS; rw [hA]; rfl
  generalize ho : Tbl.idx s l 0 = o at hc ⊢
  let L : Ltr := siLt S s l (o.getD 0) 0
  have hO : ∀ e ∈ [lenE 28 (Lt 0) (Lt 2)], @OEOkX L Tryz.prog (kep w) e := by
    obtain ⟨_, A, cp, hA, _⟩ := hS
    exact ac (@l_sl L 0 2 l.length cp A (by show some S = _; rw [hA]) rfl).x an
  cases o with
  | none => exact symGF L 40 hO an (ac (hc none rfl) an) an (.cons (.ltr rfl hs) (.cons (.ltr rfl rfl) .nil)) rfl si_run4
  | some n =>
    refine (symG hO an (ac (hc (some n) rfl) an) an (.cons (.ltr rfl hs) (.cons (.ltr rfl rfl) .nil)) (si_run5 n)).mono fun _ _ p => ?_
    obtain ⟨v', F, rfl, h2, h3⟩ := p
    rw [@is_ltr L 7 _ rfl F _ h2]
    exact ⟨rfl, h3⟩
def byteAt (s : ByteArray) (p : Nat) : Nat := (s.data.toList.getD p 0).toNat
theorem byteAt_eq {s : ByteArray} {p : Nat} (h : p < s.size) : (s[p].toNat : Nat) = byteAt s p := by
  unfold byteAt
  have h' : p < s.data.toList.length := h
  rw [List.getD_eq_getElem?_getD, List.getElem?_eq_getElem h', Option.getD_some]
  exact (show (s[p] : UInt8).toNat = (s.data.toList[p]'h').toNat from rfl)
theorem drop_byte {s : ByteArray} {p : Nat} (h : p < s.size) : ∃ c, s.data.toList.drop p = c :: s.data.toList.drop (p + 1) ∧ c.toNat = byteAt s p := by
  have h' : p < s.data.toList.length := h
  refine ⟨s.data.toList[p], List.drop_eq_getElem_cons h', ?_⟩
  unfold byteAt
  rw [List.getD_eq_getElem?_getD, List.getElem?_eq_getElem h', Option.getD_some]
theorem s_add [Ltr] {x y : Value} {j : Nat} {s t u : List UInt8} (hx : ∀ (E : Ren) z, Rel E x z → z = .string ⟨⟨s⟩⟩) (hy : ∀ (E : Ren) z, Rel E y z → z = .string ⟨⟨t⟩⟩) (hj : Ltr.v j = some (.string ⟨⟨u⟩⟩)) (hu : s ++ t = u) (hl : s.length + t.length ≤ 1000000) : OEOk Tryz.prog (binT .add 9 9 x y (Lt j)) :=
  binT_ok fun o ρ a b E w ho ha hb => by
    have e1 := hx E _ ha
    have e2 := hy E _ hb
    subst hu
    refine ⟨.string ⟨⟨s ++ t⟩⟩, ?_, .ltr hj rfl⟩
    have h1 : (⟨⟨s⟩⟩ : ByteArray) ++ ⟨⟨t⟩⟩ = ⟨⟨s ++ t⟩⟩ := by
      apply ByteArray.ext
      simp [ByteArray.data_append]
    have h2 : (⟨⟨s⟩⟩ : ByteArray).size + (⟨⟨t⟩⟩ : ByteArray).size ≤ 1000000 := hl
    rw [← h1]
    simp only [execOp, ho, e1, e2]
    go_simp
    omega
/-- a text's part -/
def sutE (t : TypeId) (x y z r : Value) : OE :=
  ⟨fun o ρ => match o with
    | .slice t' a (some b) (some c) none => Nat.beq t' t && pq (ρ a) x && pq (ρ b) y && pq (ρ c) z
    | _ => false, r⟩
theorem sut_ok [Ltr] {x y z r : Value} {s : ByteArray} {p q : Nat} (hx : ∀ (E : Ren) v, Rel E x v → v = .string s) (hy : ∀ (E : Ren) v, Rel E y v → v = .int .i64 p) (hz : ∀ (E : Ren) v, Rel E z v → v = .int .i64 q) (h1 : p ≤ q) (h2 : q ≤ s.size) (hr : ∀ E : Ren, Rel E r (.string ⟨⟨(s.data.toList.drop p).take (q - p)⟩⟩)) : OEOk Tryz.prog (sutE 9 x y z r) := by
  intro o ρ ρ' E hrr hf w
  simp only [sutE] at hf
  split at hf
  · rename_i t' a b c ho
    simp only [Bool.and_eq_true] at hf
    obtain ⟨⟨⟨f1, f2⟩, f3⟩, f4⟩ := hf
    rw [ho] at hrr
    have ra := hrr a (by simp [Op.operands])
    have rb := hrr b (by simp [Op.operands])
    have rc := hrr c (by simp [Op.operands])
    rw [pq_eq f2] at ra
    rw [pq_eq f3] at rb
    rw [pq_eq f4] at rc
    rw [Nat.eq_of_beq_eq_true f1] at ho
    refine ⟨_, ?_, hr E, fun c e => by rw [ho] at e; cases e⟩
    simp only [execOp, ho, hx E _ ra, hy E _ rb, hz E _ rc, Option.map_some, Option.map_none]
    refine run_value ?_
    show ((Go.underlying _) >>= _).run Tryz.prog w = _
    rw [Sem.run_bind, run_underlying Tryz.underlying9, Result.andThen_ok]
    refine (run_slice_string w _ s .i64 .i64 p q Tryz.underlying9 (by omega) (by omega) (by omega)).trans ?_
    rw [Int.toNat_natCast, Int.toNat_natCast]
    congr 2
    apply ByteArray.ext
    apply Array.ext'
    simp [ByteArray.data_extract]
  · cases hf
/-- a text from a place on -/
def sufE (t : TypeId) (x y r : Value) : OE :=
  ⟨fun o ρ => match o with
    | .slice t' a (some b) none none => Nat.beq t' t && pq (ρ a) x && pq (ρ b) y
    | _ => false, r⟩
theorem suf_ok [Ltr] {x y r : Value} {s : ByteArray} {p : Nat} (hx : ∀ (E : Ren) v, Rel E x v → v = .string s) (hy : ∀ (E : Ren) v, Rel E y v → v = .int .i64 p) (h1 : p ≤ s.size) (hr : ∀ E : Ren, Rel E r (.string ⟨⟨s.data.toList.drop p⟩⟩)) : OEOk Tryz.prog (sufE 9 x y r) := by
  intro o ρ ρ' E hrr hf w
  simp only [sufE] at hf
  split at hf
  · rename_i t' a b ho
    simp only [Bool.and_eq_true] at hf
    obtain ⟨⟨f1, f2⟩, f3⟩ := hf
    rw [ho] at hrr
    have ra := hrr a (by simp [Op.operands])
    have rb := hrr b (by simp [Op.operands])
    rw [pq_eq f2] at ra
    rw [pq_eq f3] at rb
    rw [Nat.eq_of_beq_eq_true f1] at ho
    refine ⟨_, ?_, hr E, fun c e => by rw [ho] at e; cases e⟩
    simp only [execOp, ho, hx E _ ra, hy E _ rb, Option.map_some, Option.map_none]
    refine run_value ?_
    show ((Go.underlying _) >>= _).run Tryz.prog w = _
    rw [Sem.run_bind, run_underlying Tryz.underlying9, Result.andThen_ok]
    refine (run_slice_string_l w _ s Tryz.underlying9 .i64 p (by omega) (by omega)).trans ?_
    rw [Int.toNat_natCast]
    congr 2
    apply ByteArray.ext
    apply Array.ext'
    rw [ByteArray.data_extract, Array.toList_extract]
    show (s.data.toList.drop p).take (s.data.toList.length - p) = _
    exact List.take_of_length_le (by rw [List.length_drop]; exact Nat.le_refl _)
  · cases hf
end Go.Proofs.YtanonhannngkmaaGreatDoor
