/-
  fold: Small's runs.
-/
import Derived.Test.YtanonhannngkmaaGreatDoorFd6
namespace Go.Proofs.YtanonhannngkmaaGreatDoor
open Go Go.RowKit
/-- what lies at the place p of block letter a, whatever is marked -/
theorem ldB_ok [Ltr] {t a p off : Nat} {X : Kep} {r u : Value} (ht : svp Tryz.prog (Go.isAgg t) = some false) (ha : ∀ k y, Ltr.o a k y → ∃ cs tt fz, y = .cells cs tt fz ∧ cs[off]? = some u) (hp : ∀ o, Ltr.p p o → o = off) (hr : ∀ E : Ren, Rel E r u) : MEOk Tryz.prog X 64 (ldC t a p r) where
  ok := by
    intro o ρ ρ' E H H1 nx w hρ R e
    simp only [ldC] at e
    split at e
    · rename_i t' x ho
      split at e
      · rename_i i pp hx
        split at e
        · rename_i aa hl
          obtain ⟨hc, e⟩ := cond_some' e
          simp only [Bool.and_eq_true] at hc
          obtain ⟨rfl, rfl⟩ := Prod.mk.inj (Option.some.inj e)
          have rx := hρ x (by rw [ho]; simp [Op.operands])
          rw [hx] at rx
          generalize hy : ρ' x = y at rx
          cases rx with
          | same hf => cases hf
          | @ptl _ _ b k oo hE hs =>
          rw [Nat.eq_of_beq_eq_true hc.1.2] at hs
          obtain rfl := hp _ hs
          rw [Nat.eq_of_beq_eq_true hc.2] at hl
          rw [Nat.eq_of_beq_eq_true hc.1.1] at ho
          obtain ⟨b', k', e', yo, hyo, hlo⟩ := R.ok i _ hl
          rw [hE] at e'; obtain ⟨rfl, rfl⟩ := Prod.mk.inj (Option.some.inj e')
          obtain ⟨cs, tt, fz, rfl, hcs⟩ := ha _ _ hlo
          have hcell : w.cell? ⟨b, oo, none⟩ = some u := by simp [World.cell?, hyo, hcs]
          refine Does.pure R (hr E) ?_
          simp only [execOp, ho, hy]
          refine run_value ?_
          show ((Instr.sureAddr _) >>= _).run Tryz.prog w = _
          show ((Go.isAgg t) >>= _).run Tryz.prog w = _
          rw [Sem.run_bind, svp_run w ht, Result.andThen_ok]
          show (Go.load _).run Tryz.prog w = _
          simp [Go.load, Sem.run, hcell]
        · cases e
      · cases e
    · cases e
  q := by
    intro o ρ H H1 nx e
    simp only [ldC] at e
    split at e
    · split at e
      · split at e
        · obtain ⟨hc, e⟩ := cond_some' e
          obtain ⟨rfl, rfl⟩ := Prod.mk.inj (Option.some.inj e)
          exact ⟨fun c h => (by cases h), fun _ => ⟨rfl, _, rfl⟩⟩
        · cases e
      · cases e
    · cases e
/-- the map of small letters, as it lies in memory -/
def smEnt : Nat → List (Nat × Nat) → List MapEntry
  | _, [] => []
  | n, p :: l => { key := .int .i32 (p.1 : Nat), val := .int .i32 (p.2 : Nat), born := n } :: smEnt (n + 1) l
def smMp : List MapEntry := smEnt 0 (Fld.gs.drop 26 ++ Fld.gs.take 26)
noncomputable def smB : Code := inLoop (loopOf Tryz.prog 10 0)
def smM (a c : Nat) : RW := ⟨67, [(66, .opq c), (65, .opq a), (64, .mp smMp 53)]⟩
def smS : St := ⟨fr 32 [(3, .map (some 64)), (4, .complex .f64 65 0), (13, .pointer (some ⟨66, 0, none⟩))], smM 0 2, []⟩
def smE : St := ⟨fr 32 [(4, .complex .f64 65 0)], ⟨67, [(65, .opq 5)]⟩, []⟩
def smT (v : List (Value × Value)) (o : List (Nat × Nat)) : Tra := ⟨v, [(0, 0)], [], [], o, []⟩
noncomputable def smC : CE := ⟨.loop smB, smT [] [(0, 0), (2, 2)], 67, [], smS, .exit 0, smE⟩
noncomputable def smRun (O : List OE) (M : List ME) (y : Exit) (T : Tra) (s' : St) : Bool := @comes (orcG 64 64 O M []) Tryz.prog (prL []) 64 64 120 smB smS y T 67 [] s'
/-- a letter that is changed: by its bytes -/
def smO : List OE := [soE 22 65 0 (Lt 1) 1, iaV 22 65 1 (.int .i64 0) 0, iaV 22 65 1 (.int .i64 1) 1]
def smMe (k v : Nat) : List ME := nxtV 2 3 1 (.int .i32 (k : Nat)) :: bif Nat.blt v 128 then [stC 5 0 0 1 (.int .u8 (v : Nat))] else [ldC 5 0 1 TOP, stC 5 0 0 1 (.int .u8 (192 + v / 64 : Nat)), stC 5 1 1 4 (.int .u8 (128 + v % 64 : Nat))]
def smO1 (v : Nat) : List OE := bif Nat.blt v 128 then smO.take 2 else smO
theorem sm_hit : (Fld.gs.all fun p => smRun (smO1 p.2) (smMe p.1 p.2) .normal (smT [] [(bif Nat.blt p.2 128 then 1 else 4, 0), (3, 2)]) smS) = true := by kernel_rfl
def smKs : List Int := Fld.gs.map fun p => ((p.1 : Nat) : Int)
theorem sm_miss : smRun [] [nxtV 2 3 1 (Lt 2), nkE 33 smKs 2 (.int .i32 0)] .normal (smT [] [(0, 0), (3, 2)]) smS = true := by kernel_rfl
theorem sm_end : smRun [] [endE 2] (.exit 0) (smT [] [(0, 5)]) smE = true := by kernel_rfl
theorem sm_all : SymG [] [insE Tryz.prog 64, cvB 9 22 (Lt 0) 0 0, rngE 9 (Lt 0) 2, cvT 22 9 5 0 (Lt 3)] [smC] [] 120 10 [Lt 0] (Lt 3) := by delta SymG; show _ = _; kernel_rfl
end Go.Proofs.YtanonhannngkmaaGreatDoor
