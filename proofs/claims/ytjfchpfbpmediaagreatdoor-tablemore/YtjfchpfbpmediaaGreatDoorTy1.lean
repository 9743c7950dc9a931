/-
  table: a table in a memory of names; both Checks from there.
-/
import Derived.Test.YtjfchpfbpmediaaGreatDoorTx9
import Derived.Test.YtjfchpfbpmediaaGreatDoorEm
namespace Go.Proofs.YtjfchpfbpmediaaGreatDoor
open Go Go.RowKit
abbrev TV := List ((Nat × Nat) × List Value)
def cellVals (H : RW) (v : Value) : Option (List Value) :=
  match v with
  | .slice (some ⟨i, o, none⟩) n _ => cellsOf H i o n
  | .slice none 0 _ => some []
  | _ => none
def tabIs (H : RW) : List MapEntry → TV → Bool
  | [], [] => true
  | e :: es, t :: T => veqn 4 e.key (Tbl.keyV t.1) && (match cellVals H e.val with
    | some l => all2 (veqn 4) l t.2
    | none => false) && tabIs H es T
  | _, _ => false
/-- the words of a key -/
def tabF (act : Value → ByteArray) : TV → Nat → Nat → List ByteArray
  | [], _, _ => []
  | t :: T, c, v => bif Nat.beq c t.1.1 && Nat.beq v t.1.2 then t.2.map act else tabF act T c v
section
variable {X : Kep} {base : Nat} {E : Ren} {H : RW} {w : World}
theorem rel_act [Ltr] {act : Value → ByteArray} : ∀ {l xs : List Value}, (∀ x ∈ l, ∀ (E : Ren) u, Rel E x u → u = .string (act x)) → RelL E l xs → xs = l.map fun x => .string (act x)
  | [], _, _, .nil => rfl
  | x :: l, _, h, .cons r t => by
    rw [List.map_cons, h x List.mem_cons_self E _ r, rel_act (fun y hy => h y (List.mem_cons_of_mem _ hy)) t]
theorem cells_in [Ltr] (R : Rep X base E H w) {act : Value → ByteArray} {v v' : Value} {l ws : List Value} (h : Rel E v v') (hc : cellVals H v = some l) (hl : all2 (veqn 4) l ws = true) (ha : ∀ x ∈ ws, ∀ (E : Ren) u, Rel E x u → u = .string (act x)) :
    ∃ A cp, v' = .slice A (ws.map act).length cp ∧ ∀ (j : Nat) x, (ws.map act)[j]? = some x → ∃ a : Addr, A = some a ∧ w.cell? (a.add j) = some (.string x) := by
  have hlw : l = ws := all2_eq (fun u v => @veqn_eq noLtr 4 u v) hl
  subst hlw
  unfold cellVals at hc
  split at hc
  · rename_i i o n c
    cases h with
    | same hf => cases hf
    | @sl _ _ b k _ _ hE =>
      obtain ⟨vs', r, hlen, hcell⟩ := cellsOf_rel R hE n o hc
      have hv := rel_act ha r
      subst hv
      refine ⟨some ⟨b, o, none⟩, room c k, by rw [List.length_map, hlen], fun j x hj => ⟨_, rfl, ?_⟩⟩
      rw [Addr.add_lit]
      refine hcell j _ ?_
      rw [List.getElem?_map] at hj ⊢
      cases hq : l[j]? with
      | none => rw [hq] at hj; cases hj
      | some y => rw [hq] at hj; rw [← Option.some.inj hj]; rfl
  · rename_i c
    obtain rfl := Option.some.inj hc
    rw [h.flat_eq rfl]
    exact ⟨none, c, rfl, fun j x hj => by simp at hj⟩
  · cases hc
theorem tab_fk [Ltr] (R : Rep X base E H w) {act : Value → ByteArray} : ∀ {T : TV} {es es' : List MapEntry}, RelM E es es' → tabIs H es T = true → (∀ t ∈ T, ∀ x ∈ t.2, ∀ (E : Ren) u, Rel E x u → u = .string (act x)) → (∀ t ∈ T, t.2.length ≤ 1000000) → ∀ (c v i : Nat),
    ∃ q A cp, fk2 c v es' i = some q ∧ valOr (.slice none 0 0) q = .slice A (tabF act T c v).length cp ∧ (tabF act T c v).length ≤ 1000000 ∧ ∀ (j : Nat) x, (tabF act T c v)[j]? = some x → ∃ a : Addr, A = some a ∧ w.cell? (a.add j) = some (.string x)
  | [], [], _, .nil, _, _, _, c, v, i => ⟨none, none, 0, rfl, rfl, Nat.zero_le _, fun j x hj => by simp [tabF] at hj⟩
  | t :: T, _, _, @RelM.cons _ _ k u u' n es es' hv tl, h, ha, hlen, c, v, i => by
    simp only [tabIs, Bool.and_eq_true] at h
    obtain ⟨⟨h1, h2⟩, h3⟩ := h
    have hk := @veqn_eq noLtr 4 _ _ h1
    subst hk
    have hb : ∀ a b : Nat, ibeq (a : Int) (b : Int) = Nat.beq a b := fun a b => rfl
    have hf : fk2 c v ({ key := Tbl.keyV t.1, val := u', born := n } :: es') i = bif Nat.beq c t.1.1 && Nat.beq v t.1.2 then some (some (i, u')) else fk2 c v es' (i + 1) := rfl
    rw [hf, tabF]
    cases hq : (Nat.beq c t.1.1 && Nat.beq v t.1.2) with
    | true =>
      cases hcv : cellVals H u with
      | none => rw [hcv] at h2; cases h2
      | some l =>
        rw [hcv] at h2
        obtain ⟨A, cp, e1, e2⟩ := cells_in R hv hcv h2 (ha t List.mem_cons_self)
        exact ⟨some (i, u'), A, cp, rfl, e1, by rw [cond_true, List.length_map]; exact hlen t List.mem_cons_self, e2⟩
    | false => exact tab_fk R tl h3 (fun s hs => ha s (List.mem_cons_of_mem _ hs)) (fun s hs => hlen s (List.mem_cons_of_mem _ hs)) c v (i + 1)
  | [], _ :: _, _, _, h, _, _, _, _, _ => by cases h
  | _ :: _, [], _, _, h, _, _, _, _, _ => by cases h
theorem tabF_mem {act : Value → ByteArray} {x : ByteArray} : ∀ {T : TV} {c v : Nat}, x ∈ tabF act T c v → ∃ t ∈ T, ∃ y ∈ t.2, x = act y
  | [], _, _, h => by cases h
  | t :: T, c, v, h => by
    unfold tabF at h
    cases hq : (Nat.beq c t.1.1 && Nat.beq v t.1.2) with
    | true =>
      rw [hq] at h
      obtain ⟨y, hy, rfl⟩ := List.mem_map.1 h
      exact ⟨t, List.mem_cons_self, y, hy, rfl⟩
    | false =>
      rw [hq] at h
      obtain ⟨s, hs, y, hy, e⟩ := tabF_mem h
      exact ⟨s, List.mem_cons_of_mem _ hs, y, hy, e⟩
/-- a call over a table: its kind, its style, its words, what comes of it -/
def chkP (T : TV) (ks ss r : Value) (args : List Value) (H : RW) : Option Value :=
  match args with
  | [.pointer (some ⟨p, 0, none⟩)] => match look p H.h with
    | some (.row [_, k, s, .map (some m)] _) => bif pq k ks && pq s ss then match look m H.h with
        | some (.mp es _) => bif tabIs H es T then some r else none
        | _ => none
      else none
    | _ => none
  | _ => none
theorem chkP_ok [Ltr] {f : FuncId} {T : TV} {ks ss r : Value} {kind style : Int} {act : Value → ByteArray} (hk : ∀ (E : Ren) u, Rel E ks u → u = .int .i64 kind) (hs : ∀ (E : Ren) u, Rel E ss u → u = .int .i64 style) (ha : ∀ t ∈ T, ∀ x ∈ t.2, (∀ (E : Ren) u, Rel E x u → u = .string (act x)) ∧ (act x).size ≤ 1000000) (hlen : ∀ t ∈ T, t.2.length ≤ 1000000)
    (hr : ∀ E : Ren, Rel E r (.int .i64 (Tbl.chkV kind style (tabF act T) : Nat)))
    (hf : ∀ (w : World) (b mb clk : Nat) (es : List MapEntry), TabIn w b kind style mb clk es (tabF act T) → Calls Tryz.prog f #[.pointer (some ⟨b, 0, none⟩)] w fun e w' => e = .returned (.int .i64 (Tbl.chkV kind style (tabF act T) : Nat)) ∧ Below w.heap.size w w') : PEOk Tryz.prog X base (f, chkP T ks ss r) := by
  intro args H u E w args' R hargs e
  dsimp only [chkP] at e
  split at e
  · rename_i p
    split at e
    · rename_i nm k s m ty hl
      obtain ⟨hc, e⟩ := cond_some e
      simp only [Bool.and_eq_true] at hc
      split at e
      · rename_i es clk hm
        obtain ⟨ht, e⟩ := cond_some e
        obtain rfl := Option.some.inj e
        cases hargs with
        | cons h1 t1 =>
          cases t1
          cases h1 with
          | same hf => cases hf
          | @ptr _ _ b kk hE =>
          obtain ⟨b1, k1, e1, xs, hx, hr1⟩ := R.ok p _ hl
          rw [hE] at e1; obtain ⟨rfl, rfl⟩ := Prod.mk.inj (Option.some.inj e1)
          obtain ⟨b2, k2, e2, es', hx2, hr2⟩ := R.ok m _ hm
          cases hr1 with
          | cons r0 t1 =>
          cases t1 with
          | cons r1 t2 =>
          cases t2 with
          | cons r2 t3 =>
          cases t3 with
          | cons r3 t4 =>
          cases t4
          rw [pq_eq hc.1] at r1
          rw [pq_eq hc.2] at r2
          have q1 := hk E _ r1
          have q2 := hs E _ r2
          subst q1 q2
          cases r3 with
          | same hf => cases hf
          | @map _ bm km hE2 =>
          rw [e2] at hE2; obtain ⟨rfl, rfl⟩ := Prod.mk.inj (Option.some.inj hE2)
          have hT : TabIn w b kind style b2 clk es' (tabF act T) := by
            refine ⟨by rw [heap_get_of hx]; rfl, by rw [heap_get_of hx]; rfl, by rw [heap_get_of hx]; rfl, hx2, fun c v => tab_fk R hr2 ht (fun t h x hx => (ha t h x hx).1) hlen c v 0, fun c v x hx => ?_⟩
            obtain ⟨t, h3, y, h4, rfl⟩ := tabF_mem hx
            exact (ha t h3 y h4).2
          exact (hf w b b2 clk es' hT).mono fun e w' q => ⟨_, q.1, hr E, q.2⟩
      · cases e
    · cases e
  · cases e
end
end Go.Proofs.YtjfchpfbpmediaaGreatDoor
