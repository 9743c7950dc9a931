/-
  The law's Check, whole: it answers what chapter 2 says.
-/
import Derived.Test.YtoldjleojnlhiaaDoorR7
import Derived.Test.YtoldjleojnlhiaaDoorR16
namespace Go.Proofs.YtoldjleojnlhiaaDoor
open Go.RowKit

/-- the frame ahead of the loops -/
structure Fb (w : World) (W : World → Prop) (ex : Array Value → Prop) (a : Act) (v : World) : Prop where
  ww : W v
  d : a.defers = []
  hs : a.tmps.size = 236
  s1 : a.tmps.getD 1 undef = .pointer (some ⟨w.heap.size, 0, none⟩)
  e : ex a.tmps
def boxOf (f iv c u : Int) (AM AD AW AP : Option Addr) (cM cD cW cP : Nat) (M D : List Int) (W : List (Int × Int)) (P : List Int) (w : World) : World :=
  w.alloc (.cells #[.int .i64 f, .int .i64 iv, .int .i64 c, .int .i64 u, .slice AM M.length cM, .slice AD D.length cD, .slice AW W.length cW, .slice AP P.length cP] 38)
structure Cells8 (w wb : World) (f iv c u : Int) (sM sD sW sP : Value) : Prop where
  c0 : wb.cell? ⟨w.heap.size, 0, none⟩ = some (.int .i64 f)
  c1 : wb.cell? ⟨w.heap.size, 1, none⟩ = some (.int .i64 iv)
  c2 : wb.cell? ⟨w.heap.size, 2, none⟩ = some (.int .i64 c)
  c3 : wb.cell? ⟨w.heap.size, 3, none⟩ = some (.int .i64 u)
  c4 : wb.cell? ⟨w.heap.size, 4, none⟩ = some sM
  c5 : wb.cell? ⟨w.heap.size, 5, none⟩ = some sD
  c6 : wb.cell? ⟨w.heap.size, 6, none⟩ = some sW
  c7 : wb.cell? ⟨w.heap.size, 7, none⟩ = some sP

theorem outer_end (w wr : World) (a : Act) (K : Act → World → Prop) (Q : Exit → Act → World → Prop) (F : FO w 4 a.tmps) (hd : a.defers = [])
    (hend : ∀ a', a'.defers = [] → FO w 4 a'.tmps → Q (.exit 0) a' wr) : outerBody.wp Tryd.prog (Exit.then K Q) a wr := by
  conv => arg 2; whnf
  refine wp_seq ?_
  refine cut_at (So w 4 (IsW wr) (SlotIs 79 (.bool false))) ?c1 ?c2
  case c1 =>
    have hs := F.hs
    have g78 := getD_arr F.s78
    have g77 := getD_arr F.s77
    have F78 := F.s78
    have F77 := F.s77
    go_wp2_with fail
    exact ⟨rfl, by first | rfl | exact hd, F.set 79 _ (by decide), by unfold SlotIs; rw [set_get (by simp [hs])]⟩
  case c2 =>
  rintro a1 _ ⟨rfl, hd1, F1, h79⟩
  refine wp_seq ?_
  refine wp_cond_false (eval_tmp h79) ?_
  refine wp_exit ?_
  exact hend a1 hd1 F1

def InvO (w w0 : World) (f : Int) (M D : List Int) (W : List (Int × Int)) (P : List Int) (a : Act) (wr : World) : Prop :=
  ∃ j : Nat, j ≤ 4 ∧ a.defers = [] ∧ FO w j a.tmps ∧ Below w0.heap.size w0 wr ∧ Rul.lists f M D W P = Rul.after f M D W P j

theorem outer_all (w w0 wr : World) (a : Act) (K : Act → World → Prop) (Q : Exit → Act → World → Prop) (hQ : Blind Q) (f : Int) (AM AD AW AP : Option Addr) (cM cD cW cP : Nat) (M D : List Int) (W : List (Int × Int)) (P : List Int)
    (hf0 : 0 ≤ f) (hf4 : f < 4) (hz : w.heap.size + 1 < w0.heap.size) (hL : ListsIn w0 AM AD AW AP M D W P)
    (o0 : w0.cell? ⟨w.heap.size + 1, 0, none⟩ = some (.slice AM M.length cM)) (o1 : w0.cell? ⟨w.heap.size + 1, 1, none⟩ = some (.slice AD D.length cD))
    (o2 : w0.cell? ⟨w.heap.size + 1, 2, none⟩ = some (.slice none 0 0)) (o3 : w0.cell? ⟨w.heap.size + 1, 3, none⟩ = some (.slice AP P.length cP))
    (x0 : w0.cell? ⟨w.heap.size, 0, none⟩ = some (.int .i64 f)) (x6 : w0.cell? ⟨w.heap.size, 6, none⟩ = some (.slice AW W.length cW))
    (F : FO w 0 a.tmps) (hd : a.defers = []) (hb : Below w0.heap.size w0 wr)
    (hret : ∀ (v : Int) a' w', a'.defers = [] → a'.tmps.size = 236 → a'.tmps.getD 2 undef = .int .i64 v → Below w0.heap.size w0 w' → v = Rul.lists f M D W P → v ≠ 0 → Q .ret a' w')
    (hnext : ∀ a' w', a'.defers = [] → FO w 4 a'.tmps → Below w0.heap.size w0 w' → Rul.lists f M D W P = 0 → K a' w') :
    (Code.block 0 (Code.loop outerBody)).wp Tryd.prog (Exit.then K Q) a wr := by
  refine wp_block ?_
  refine wp_loop (InvO w w0 f M D W P) (fun a _ => 4 - (intOf (a.tmps.getD 78 undef)).toNat) ⟨0, by omega, hd, F, hb, rfl⟩ ?_
  clear F hd hb a wr
  rintro a wr ⟨j, hj, hd, F, hb, hst⟩
  by_cases h4 : j < 4
  · have hj' : j = 0 ∨ j = 1 ∨ j = 2 ∨ j = 3 := by omega
    have mu : ∀ (k : Nat) (a' : Act), FO w k a.tmps → FO w (k + 1 : Nat) a'.tmps → k < 4 → 4 - (intOf (a'.tmps.getD 78 undef)).toNat < 4 - (intOf (a.tmps.getD 78 undef)).toNat := by
      intro k a' h1 h2 h3
      rw [h1.s78, h2.s78]
      simp [intOf]
      omega
    rcases hj' with rfl | rfl | rfl | rfl
    · refine outer_0 w w0 wr a _ _ (blind_block (blind_then hQ)) AM M cM hz o0 F hd hb hL.m hL.lm ?_ ?_
      · intro v a' w' h1 h2 h3 h5 h6 h7
        exact hret v a' w' h1 h2 h3 h5 ((hst.trans (Rul.after_bad0 h6.symm h7)).symm) h7
      · intro a' w' h1 h2 h3 h5
        exact ⟨⟨1, by omega, h1, h2, h3, hst.trans (Rul.after_ok0 h5)⟩, mu 0 a' F h2 (by omega)⟩
    · refine outer_1 w w0 wr a _ _ (blind_block (blind_then hQ)) AD D cD hz o1 F hd hb hL.d hL.ld ?_ ?_
      · intro v a' w' h1 h2 h3 h5 h6 h7
        exact hret v a' w' h1 h2 h3 h5 ((hst.trans (Rul.after_bad1 h6.symm h7)).symm) h7
      · intro a' w' h1 h2 h3 h5
        exact ⟨⟨2, by omega, h1, h2, h3, hst.trans (Rul.after_ok1 h5)⟩, mu 1 a' F h2 (by omega)⟩
    · refine outer_2 w w0 wr a _ _ (blind_block (blind_then hQ)) AW W cW f hf0 hf4 x0 x6 hz o2 F hd hb hL.k hL.lk ?_ ?_
      · intro v a' w' h1 h2 h3 h5 h6 h7
        exact hret v a' w' h1 h2 h3 h5 ((hst.trans (Rul.after_bad2 h6.symm h7)).symm) h7
      · intro a' w' h1 h2 h3 h5
        exact ⟨⟨3, by omega, h1, h2, h3, hst.trans (Rul.after_ok2 h5)⟩, mu 2 a' F h2 (by omega)⟩
    · refine outer_3 w w0 wr a _ _ (blind_block (blind_then hQ)) AP P cP hz o3 F hd hb hL.p hL.lp ?_ ?_
      · intro v a' w' h1 h2 h3 h5 h6 h7
        exact hret v a' w' h1 h2 h3 h5 ((hst.trans (Rul.after_bad3 h6.symm h7)).symm) h7
      · intro a' w' h1 h2 h3 h5
        exact ⟨⟨4, by omega, h1, h2, h3, hst.trans (Rul.after_ok3 h5)⟩, mu 3 a' F h2 (by omega)⟩
  · obtain rfl : j = 4 := by omega
    refine outer_end w wr a _ _ F hd ?_
    intro a' h1 h2
    exact hnext a' wr h1 h2 hb hst
end Go.Proofs.YtoldjleojnlhiaaDoor
