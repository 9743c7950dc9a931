/-
  A run by reckoning: loops over functions: the record, the marks, a round.
-/
import Derived.Test.YtkhmbphcjacgnaaGreatDoorEvG
import Derived.Test.YtkhmbphcjacgnaaGreatDoorEvK
namespace Go.Proofs.YtkhmbphcjacgnaaGreatDoor
open Go Go.RowKit
section
variable {P : Program} {pr : Prim} {G : Nat} {X : Kep} {base : Nat} {E : Ren} {H : RW} {w : World}
/-- a block that is no row of cells, put anew -/
theorem Rep.re [Ltr] (R : Rep X base E H w) {i b k : Nat} {o o' : Ob} {y : Obj} (hbi : base ≤ i) (hl : look i H.h = some o) (ho : o.live = true) (e : E i = some (b, k)) (hok : Ok E k o' (some y)) :
    Rep X base E (H.re i o') { w with heap := w.heap.setIfInBounds b y } ∧ Kp X w { w with heap := w.heap.setIfInBounds b y } := R.setOb hbi hl ho e hok
theorem run_take {b : Nat} (h : w.heap[b]? = some (.deferred (some []))) : (Instr.takeDeferred b).run P w = .ok [] { w with heap := w.heap.setIfInBounds b (.deferred none) } := by
  simp [Instr.takeDeferred, Go.getObj, Go.setObj, Sem.run, h]
theorem takeAll_leaves [Ltr] [Orc] {n : Nat} {fn : Func} {tmps : Array Value} {R : Ending → World → Prop} : ∀ {ds : List Nat} {l : List Deferred} {H H2 : RW} {w : World}, Rep X base E H w → RelD E ds l → takeAll base ds H = some H2 →
    (∀ w', Rep X base E H2 w' → Kp X w w' → ∃ v, (results fn tmps).run P w' = .ok v w' ∧ R (.returned v) w') → LeavesInM (Wd none) n P fn tmps R l .returning w
  | [], l, H, H2, w, hR, hd, e, k => by
    obtain rfl : l = [] := hd
    obtain rfl := Option.some.inj e
    exact k w hR (Kp.refl _ _)
  | i :: ds, l, H, H2, w, hR, ⟨b, kk, m, hE, hl, hd⟩, e, k => by
    subst hl
    unfold takeAll at e
    split at e
    · rename_i hlk
      obtain ⟨hb, e⟩ := cond_some e
      obtain ⟨b', k', e', h'⟩ := hR.ok i _ hlk
      rw [hE] at e'; obtain ⟨rfl, rfl⟩ := Prod.mk.inj (Option.some.inj e')
      have hx : w.heap[b]? = some (.deferred (some [])) := h'
      obtain ⟨R1, b1⟩ := hR.re (o' := .gone) (y := .deferred none) (Nat.le_of_ble_eq_true hb) hlk rfl hE trivial
      exact ⟨by simp, .inl ⟨b, _, rfl, run_take hx, takeAll_leaves R1 hd e fun w' r1 k1 => k w' r1 (b1.trans k1)⟩⟩
    · cases e
theorem setp_rel [Ltr] : ∀ {ts ts' : List Value} (ps : List Tmp) {as as' : List Value}, RelL E ts ts' → RelL E as as' → RelL E (setp ts ps as) ((ps.zip as').foldl (fun (f : List Value) (p : Tmp × Value) => f.set p.1 p.2) ts')
  | ts, ts', [], as, as', h, _ => by simpa [setp] using h
  | ts, ts', p :: ps, _, _, h, .nil => by simpa [setp] using h
  | ts, ts', p :: ps, _, _, h, .cons hv t => by
    simp only [setp, List.zip_cons_cons, List.foldl_cons]
    exact setp_rel ps (h.set hv p) t
theorem foldl_list : ∀ (l : List (Tmp × Value)) (x : Array Value), (l.foldl (fun (tmps : Array Value) (p : Tmp × Value) => tmps.setIfInBounds p.1 p.2) x).toList = l.foldl (fun (f : List Value) (p : Tmp × Value) => f.set p.1 p.2) x.toList
  | [], _ => rfl
  | p :: l, x => by
    simp only [List.foldl_cons]
    rw [foldl_list l, Array.toList_setIfInBounds]
theorem run_getLoop {b : Nat} {r : Loop} (h : w.heap[b]? = some (.loop r)) : (Instr.getLoop b).run P w = .ok r w := by
  simp [Instr.getLoop, Go.getObj, Sem.run, h]
theorem run_setLoop {b : Nat} {r r' : Loop} (h : w.heap[b]? = some (.loop r)) : (Go.setObj b (.loop r')).run P w = .ok () { w with heap := w.heap.setIfInBounds b (.loop r') } := by
  simp [Go.setObj, Sem.run, h]
end
end Go.Proofs.YtkhmbphcjacgnaaGreatDoor
