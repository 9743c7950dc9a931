/-
  The law's Check: its inner loop, for each of the four lists.
-/
import Derived.Test.YtoldjleojnlhiaaDoorR14
namespace Go.Proofs.YtoldjleojnlhiaaDoor
open Go.RowKit

/-- the inner loop's last look: no element is left -/
theorem round_end (w wr : World) (j : Int) (sl : Value) (n : Nat) (a : Act) (K : Act → World → Prop) (Q : Exit → Act → World → Prop)
    (F : FI w j sl n a.tmps) (hd : a.defers = []) (i : Nat) (h93 : a.tmps.getD 93 undef = .int .i64 i) (hge : ¬ i < n)
    (hend : ∀ a', a'.defers = [] → FI w j sl n a'.tmps → Q (.exit 2) a' wr) :
    innerBody.wp Tryd.prog (Exit.then K Q) a wr := by
  have hs := F.hs
  have g92 := getD_arr F.s92
  have g93 := getD_arr h93
  have F92 := F.s92
  conv => arg 2; whnf
  refine wp_seq ?_
  refine cut_at (St (FI w j sl n) (IsW wr) i (SlotIs 94 (.bool false))) ?c1 ?c2
  case c1 =>
    go_wp2_with fail
    exact ⟨rfl, by first | rfl | exact hd, F.set 94 _ (by decide), by rw [set_ne (by decide)]; exact h93, by unfold SlotIs; rw [set_get (by simp [hs])]⟩
  case c2 =>
  rintro a1 _ ⟨rfl, hd1, F1, h931, h94⟩
  refine wp_seq ?_
  refine wp_cond_false (eval_tmp h94) ?_
  refine wp_exit ?_
  exact hend a1 hd1 F1

def Inv0 (w w0 : World) (A : Option Addr) (L : List Int) (cap : Nat) (a : Act) (wr : World) : Prop :=
  ∃ i : Nat, i ≤ L.length ∧ a.defers = [] ∧ FI w 0 (.slice A L.length cap) L.length a.tmps ∧ a.tmps.getD 93 undef = .int .i64 i ∧ Below w0.heap.size w0 wr ∧ Rul.step Rul.inM Rul.cmpI L 0 = Rul.step Rul.inM Rul.cmpI L i
theorem inner_0 (w w0 wr : World) (a : Act) (K : Act → World → Prop) (Q : Exit → Act → World → Prop) (hQ : Blind Q) (A : Option Addr) (L : List Int) (cap : Nat)
    (F : FI w 0 (.slice A L.length cap) L.length a.tmps) (hd : a.defers = []) (h93 : a.tmps.getD 93 undef = .int .i64 0) (h64 : L.length ≤ 64) (hb : Below w0.heap.size w0 wr) (hI : IntsIn w0 A L)
    (hret : ∀ (v : Int) a' w', a'.defers = [] → a'.tmps.size = 236 → a'.tmps.getD 2 undef = .int .i64 v → Below w0.heap.size w0 w' → v = Rul.step Rul.inM Rul.cmpI L 0 → v ≠ 0 → Q .ret a' w')
    (hnext : ∀ a' w', a'.defers = [] → FI w 0 (.slice A L.length cap) L.length a'.tmps → Below w0.heap.size w0 w' → Rul.step Rul.inM Rul.cmpI L 0 = 0 → K a' w') :
    (Code.block 2 (Code.loop innerBody)).wp Tryd.prog (Exit.then K Q) a wr := by
  refine wp_block ?_
  refine wp_loop (Inv0 w w0 A L cap) (fun a _ => L.length - (intOf (a.tmps.getD 93 undef)).toNat) ⟨0, Nat.zero_le _, hd, F, h93, hb, rfl⟩ ?_
  clear F hd h93 hb a wr
  rintro a wr ⟨i, hi, hd, F, h93, hb, hst⟩
  by_cases hlt : i < L.length
  · obtain ⟨ad, rfl, _, _⟩ := hI i hlt
    refine round_0 w w0 wr a _ _ (blind_block (blind_then hQ)) ad L cap i F hd h93 hlt h64 hb hI ?_ ?_
    · intro v a' w' h1 h2 h3 h4 h5 h6
      exact hret v a' w' h1 h2 h3 h4 (h5.trans hst.symm) h6
    · intro a' w' h1 h2 h3 h4 h5
      refine ⟨⟨i + 1, by omega, h1, h2, h3, h4, hst.trans h5⟩, ?_⟩
      rw [h3, h93]
      simp [intOf]
      omega
  · refine round_end w wr 0 _ L.length a _ _ F hd i h93 hlt ?_
    intro a' h1 h2
    have e : Rul.step Rul.inM Rul.cmpI L 0 = 0 := hst.trans (Rul.step_end hlt)
    exact hnext a' wr h1 h2 hb e

def Inv1 (w w0 : World) (A : Option Addr) (L : List Int) (cap : Nat) (a : Act) (wr : World) : Prop :=
  ∃ i : Nat, i ≤ L.length ∧ a.defers = [] ∧ FI w 1 (.slice A L.length cap) L.length a.tmps ∧ a.tmps.getD 93 undef = .int .i64 i ∧ Below w0.heap.size w0 wr ∧ Rul.step Rul.inD Rul.cmpI L 0 = Rul.step Rul.inD Rul.cmpI L i
theorem inner_1 (w w0 wr : World) (a : Act) (K : Act → World → Prop) (Q : Exit → Act → World → Prop) (hQ : Blind Q) (A : Option Addr) (L : List Int) (cap : Nat)
    (F : FI w 1 (.slice A L.length cap) L.length a.tmps) (hd : a.defers = []) (h93 : a.tmps.getD 93 undef = .int .i64 0) (h64 : L.length ≤ 64) (hb : Below w0.heap.size w0 wr) (hI : IntsIn w0 A L)
    (hret : ∀ (v : Int) a' w', a'.defers = [] → a'.tmps.size = 236 → a'.tmps.getD 2 undef = .int .i64 v → Below w0.heap.size w0 w' → v = Rul.step Rul.inD Rul.cmpI L 0 → v ≠ 0 → Q .ret a' w')
    (hnext : ∀ a' w', a'.defers = [] → FI w 1 (.slice A L.length cap) L.length a'.tmps → Below w0.heap.size w0 w' → Rul.step Rul.inD Rul.cmpI L 0 = 0 → K a' w') :
    (Code.block 2 (Code.loop innerBody)).wp Tryd.prog (Exit.then K Q) a wr := by
  refine wp_block ?_
  refine wp_loop (Inv1 w w0 A L cap) (fun a _ => L.length - (intOf (a.tmps.getD 93 undef)).toNat) ⟨0, Nat.zero_le _, hd, F, h93, hb, rfl⟩ ?_
  clear F hd h93 hb a wr
  rintro a wr ⟨i, hi, hd, F, h93, hb, hst⟩
  by_cases hlt : i < L.length
  · obtain ⟨ad, rfl, _, _⟩ := hI i hlt
    refine round_1 w w0 wr a _ _ (blind_block (blind_then hQ)) ad L cap i F hd h93 hlt h64 hb hI ?_ ?_
    · intro v a' w' h1 h2 h3 h4 h5 h6
      exact hret v a' w' h1 h2 h3 h4 (h5.trans hst.symm) h6
    · intro a' w' h1 h2 h3 h4 h5
      refine ⟨⟨i + 1, by omega, h1, h2, h3, h4, hst.trans h5⟩, ?_⟩
      rw [h3, h93]
      simp [intOf]
      omega
  · refine round_end w wr 1 _ L.length a _ _ F hd i h93 hlt ?_
    intro a' h1 h2
    have e : Rul.step Rul.inD Rul.cmpI L 0 = 0 := hst.trans (Rul.step_end hlt)
    exact hnext a' wr h1 h2 hb e

def Inv2 (w w0 : World) (f : Int) (L : List (Int × Int)) (a : Act) (wr : World) : Prop :=
  ∃ i : Nat, i ≤ L.length ∧ a.defers = [] ∧ FI w 2 (.slice none 0 0) L.length a.tmps ∧ a.tmps.getD 93 undef = .int .i64 i ∧ Below w0.heap.size w0 wr ∧ Rul.step (Rul.inW f) Rul.cmpN L 0 = Rul.step (Rul.inW f) Rul.cmpN L i
theorem inner_2 (w w0 wr : World) (a : Act) (K : Act → World → Prop) (Q : Exit → Act → World → Prop) (hQ : Blind Q) (A : Option Addr) (L : List (Int × Int)) (cap : Nat) (f : Int) (hf0 : 0 ≤ f) (hf4 : f < 4) (hz : w.heap.size < w0.heap.size) (hx0 : w0.cell? ⟨w.heap.size, 0, none⟩ = some (.int .i64 f)) (hx6 : w0.cell? ⟨w.heap.size, 6, none⟩ = some (.slice A L.length cap))
    (F : FI w 2 (.slice none 0 0) L.length a.tmps) (hd : a.defers = []) (h93 : a.tmps.getD 93 undef = .int .i64 0) (h64 : L.length ≤ 64) (hb : Below w0.heap.size w0 wr) (hI : NthsIn w0 A L)
    (hret : ∀ (v : Int) a' w', a'.defers = [] → a'.tmps.size = 236 → a'.tmps.getD 2 undef = .int .i64 v → Below w0.heap.size w0 w' → v = Rul.step (Rul.inW f) Rul.cmpN L 0 → v ≠ 0 → Q .ret a' w')
    (hnext : ∀ a' w', a'.defers = [] → FI w 2 (.slice none 0 0) L.length a'.tmps → Below w0.heap.size w0 w' → Rul.step (Rul.inW f) Rul.cmpN L 0 = 0 → K a' w') :
    (Code.block 2 (Code.loop innerBody)).wp Tryd.prog (Exit.then K Q) a wr := by
  refine wp_block ?_
  refine wp_loop (Inv2 w w0 f L) (fun a _ => L.length - (intOf (a.tmps.getD 93 undef)).toNat) ⟨0, Nat.zero_le _, hd, F, h93, hb, rfl⟩ ?_
  clear F hd h93 hb a wr
  rintro a wr ⟨i, hi, hd, F, h93, hb, hst⟩
  by_cases hlt : i < L.length
  · obtain ⟨ad, rfl, _, _⟩ := hI i hlt
    refine round_2 w w0 wr a _ _ (blind_block (blind_then hQ)) ad L f cap i hf0 hf4 hz hx0 hx6 F hd h93 hlt h64 hb hI ?_ ?_
    · intro v a' w' h1 h2 h3 h4 h5 h6
      exact hret v a' w' h1 h2 h3 h4 (h5.trans hst.symm) h6
    · intro a' w' h1 h2 h3 h4 h5
      refine ⟨⟨i + 1, by omega, h1, h2, h3, h4, hst.trans h5⟩, ?_⟩
      rw [h3, h93]
      simp [intOf]
      omega
  · refine round_end w wr 2 _ L.length a _ _ F hd i h93 hlt ?_
    intro a' h1 h2
    have e : Rul.step (Rul.inW f) Rul.cmpN L 0 = 0 := hst.trans (Rul.step_end hlt)
    exact hnext a' wr h1 h2 hb e

def Inv3 (w w0 : World) (A : Option Addr) (L : List Int) (cap : Nat) (a : Act) (wr : World) : Prop :=
  ∃ i : Nat, i ≤ L.length ∧ a.defers = [] ∧ FI w 3 (.slice A L.length cap) L.length a.tmps ∧ a.tmps.getD 93 undef = .int .i64 i ∧ Below w0.heap.size w0 wr ∧ Rul.step Rul.inP Rul.cmpI L 0 = Rul.step Rul.inP Rul.cmpI L i
theorem inner_3 (w w0 wr : World) (a : Act) (K : Act → World → Prop) (Q : Exit → Act → World → Prop) (hQ : Blind Q) (A : Option Addr) (L : List Int) (cap : Nat)
    (F : FI w 3 (.slice A L.length cap) L.length a.tmps) (hd : a.defers = []) (h93 : a.tmps.getD 93 undef = .int .i64 0) (h64 : L.length ≤ 64) (hb : Below w0.heap.size w0 wr) (hI : IntsIn w0 A L)
    (hret : ∀ (v : Int) a' w', a'.defers = [] → a'.tmps.size = 236 → a'.tmps.getD 2 undef = .int .i64 v → Below w0.heap.size w0 w' → v = Rul.step Rul.inP Rul.cmpI L 0 → v ≠ 0 → Q .ret a' w')
    (hnext : ∀ a' w', a'.defers = [] → FI w 3 (.slice A L.length cap) L.length a'.tmps → Below w0.heap.size w0 w' → Rul.step Rul.inP Rul.cmpI L 0 = 0 → K a' w') :
    (Code.block 2 (Code.loop innerBody)).wp Tryd.prog (Exit.then K Q) a wr := by
  refine wp_block ?_
  refine wp_loop (Inv3 w w0 A L cap) (fun a _ => L.length - (intOf (a.tmps.getD 93 undef)).toNat) ⟨0, Nat.zero_le _, hd, F, h93, hb, rfl⟩ ?_
  clear F hd h93 hb a wr
  rintro a wr ⟨i, hi, hd, F, h93, hb, hst⟩
  by_cases hlt : i < L.length
  · obtain ⟨ad, rfl, _, _⟩ := hI i hlt
    refine round_3 w w0 wr a _ _ (blind_block (blind_then hQ)) ad L cap i F hd h93 hlt h64 hb hI ?_ ?_
    · intro v a' w' h1 h2 h3 h4 h5 h6
      exact hret v a' w' h1 h2 h3 h4 (h5.trans hst.symm) h6
    · intro a' w' h1 h2 h3 h4 h5
      refine ⟨⟨i + 1, by omega, h1, h2, h3, h4, hst.trans h5⟩, ?_⟩
      rw [h3, h93]
      simp [intOf]
      omega
  · refine round_end w wr 3 _ L.length a _ _ F hd i h93 hlt ?_
    intro a' h1 h2
    have e : Rul.step Rul.inP Rul.cmpI L 0 = 0 := hst.trans (Rul.step_end hlt)
    exact hnext a' wr h1 h2 hb e
end Go.Proofs.YtoldjleojnlhiaaDoor
